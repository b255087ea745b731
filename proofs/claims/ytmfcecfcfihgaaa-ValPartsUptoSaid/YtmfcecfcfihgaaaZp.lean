/- ValParts' walk. -/
import Derived.Test.YtmfcecfcfihgaaaZo
namespace Go.Proofs.Ytmfcecfcfihgaaa
open Go.RowKit Go.Shelf
attribute [local go_sem] Oper.semAt_some store_nilFunc store_func

set_option maxRecDepth 100000 in
set_option maxHeartbeats 12800000 in
theorem parts_walk (T : V) (v : Value) (many : Int) (_hm : W64 many) (w : World) (h : In w 0 w.heap.size v T) (hT : T.size ≤ 1048576) :
    Calls Try.prog 4 #[v, .int .i64 many] w fun e w' => e = .returned (.bool true) ∧ Below w.heap.size w w' := by
  obtain ⟨A, c, rfl, hc1, hc2, hls⟩ := h.val
  have hp := Lib.hid (P3.new w T A c many)
  have HIN := Lib.hid h
  have HT : Hid (T.size ≤ 1000000000000) := Lib.hid (by omega)
  clear h hT hls
  refine calls_of_wp_marks 5 Try.func4 rfl ?_
  simp only [Try.ntmps4, List.size_toArray, List.length_cons, List.length_nil, Nat.reduceAdd, Nat.reduceSub, Array.replicate_succ, Array.replicate_zero, List.push_toArray, List.append_toArray, List.nil_append, List.cons_append]
  obtain ⟨⟨x0, x1, x2⟩, y0, z0, z1⟩ := hp.out.cells
  rcases (szCases T).symm with ⟨_, hT2⟩ | ⟨hT1, hT2⟩
  · go_wp2_with (first
      | (go_at_call 19; (with_reducible refine (P3.size_ hp HIN.out HT.out).mono ?_); rintro e w1 ⟨rfl, hp⟩; obtain ⟨⟨x0, x1, x2⟩, y0, z0, z1⟩ := hp.out.cells)
      | (go_at_call 20; (with_reducible refine (P3.works_ hp).mono ?_); rintro e w1 ⟨rfl, hp⟩; obtain ⟨⟨x0, x1, x2⟩, y0, z0, z1⟩ := hp.out.cells))
    obtain ⟨r0, hfin⟩ := hp.out.fin
    exact ⟨.bool true, by simp [results, Try.results4, go_sem, r0], rfl, hfin.out⟩
  · have HT1 := Lib.hid hT1
    have hln : T.l.length ≤ 256 := by
      have h1 := V.len_le_sizeL T.l
      have h2 : T.size = 1 + V.sizeL T.l := by cases T; exact V.size_mk _ _ _
      omega
    clear hT1
    go_upto_region 4 with (first
      | (go_at_call 19; (with_reducible refine (P3.size_ hp HIN.out HT.out).mono ?_); rintro e w1 ⟨rfl, hp⟩; obtain ⟨⟨x0, x1, x2⟩, y0, z0, z1⟩ := hp.out.cells)
      | (go_at_call 21; have HW := Lib.hid hp.out.bl.size; (with_reducible refine (P3.want_ hp HIN.out HT1.out).mono ?_); rintro e w2 ⟨S, d, rfl, hQ⟩))
    have hws := Lib.hid (WantS.of hQ.out.2 HW.out)
    have hp2 := Lib.hid (hQ.out.1.below ((Below.refl _ w2).alloc (Nat.le_refl _) (.cells #[.slice S (wantOf T).length d] 38)))
    obtain ⟨b5, hb5⟩ : ∃ b, w2.heap.size = b := ⟨_, rfl⟩
    obtain ⟨W2, hW2⟩ : ∃ W, w2.alloc (.cells #[.slice S (wantOf T).length d] 38) = W := ⟨_, rfl⟩
    rw [hW2] at hws hp2
    rw [hb5] at hws
    have hb5l := hws.out.bx.lt
    clear x0 x1 x2 y0 z0 z1 hp hQ HW
    have hp := hp2
    clear hp2
    obtain ⟨⟨x0, x1, x2⟩, y0, z0, z1⟩ := hp.out.cells
    rw [hW2, hb5]
    clear hW2 hb5
    have hcp := (CopyG_ok W2 (HIN.out.after hp.out.bl) hp.out.bl.size HT1.out).mono
      (R' := fun e w' => ∃ S' c' g o, e = .returned (.agg #[.int .i64 T.k, .int .i64 T.n, .slice S' T.l.length c']) ∧ Hid (CG T S' g o W2.heap.size w' ∧ In w' 0 w'.heap.size (.agg #[.int .i64 T.k, .int .i64 T.n, .slice S' T.l.length c']) T ∧ Below W2.heap.size W2 w'))
      (fun e w' q => by
        obtain ⟨v', rfl, hc⟩ := q
        obtain ⟨S', c', rfl, _⟩ := hc.inn.val
        obtain ⟨g, o, hg⟩ := hc.cg
        exact ⟨S', c', g, o, rfl, Lib.hid ⟨hg, hc.inn.mono (Nat.zero_le _) (Nat.le_refl _), hc.bl⟩⟩)
    have HC := Lib.hid hcp
    clear hcp
    go_upto_region 5 with (go_at_call 22; refine HC.out.mono ?_; rintro e w3 ⟨S', c', g, o, rfl, hcQ⟩)
    obtain ⟨hcg0, hin0, hbl0⟩ := hcQ.out
    obtain ⟨cs0, hcs0⟩ := hcg0.blk
    have hg6 := hcs0.lt
    have hb3 : Below w3.heap.size w3 (w3.alloc (.cells #[.int .i64 T.k, .int .i64 T.n, .slice S' T.l.length c'] 36)) := (Below.refl _ _).alloc (Nat.le_refl _) _
    have hcg := Lib.hid (hcg0.alloc (.cells #[.int .i64 T.k, .int .i64 T.n, .slice S' T.l.length c'] 36))
    have hin3 := Lib.hid ((hin0.after hb3).mono (Nat.le_refl _) hb3.size)
    have hb23 := Lib.hid (hbl0.trans (hb3.mono hbl0.size))
    have hb6k := Blk.new w3 36 #[.int .i64 T.k, .int .i64 T.n, .slice S' T.l.length c']
    obtain ⟨b6, hb6⟩ : ∃ b, w3.heap.size = b := ⟨_, rfl⟩
    obtain ⟨W3, hW3⟩ : ∃ W, w3.alloc (.cells #[.int .i64 T.k, .int .i64 T.n, .slice S' T.l.length c'] 36) = W := ⟨_, rfl⟩
    rw [hb6] at hb6k hg6
    rw [hW3] at hb6k hcg hin3 hb23
    rw [hW3, hb6]
    have HB6 := Lib.hid hb6k
    have h6l := hb6k.lt
    have hg2 : Hid (W2.heap.size ≤ g) := Lib.hid hcg0.ge
    have hp3 := Lib.hid (hp.out.below hb23.out)
    have hws3 := Lib.hid (hws.out.below hb23.out)
    clear hcg0 hin0 hbl0 hcs0 hb3 hW3 hb6 hcQ HC x0 x1 x2 y0 z0 z1
    obtain ⟨q0, q1, q2⟩ := hb6k.cells3
    clear hb6k
    have HP := Lib.hid (Parts_u W3 hin3.out)
    go_wp2_with (go_at_call 23; refine HP.out.mono ?_; rintro e w4 ⟨gf, lb, rfl, hPQ⟩; have heq := hPQ.out.1.eql)
    have hcg4 := hcg.out.below hPQ.out.2
    have hI0 : Hid (ZI w4 g o 0 w4) := Lib.hid ⟨hcg4.blk, fun _ _ => rfl, Keep.refl _ _⟩
    have HSC := Lib.hid hcg4.sc
    have HIN4 := Lib.hid ((hin3.out.after hPQ.out.2).mono (Nat.le_refl _) hPQ.out.2.size)
    have HB6' := Lib.hid (HB6.out.keep (hPQ.out.2.block _ h6l))
    clear hcg4 hcg q0 q1 q2 HP
    go_loopw [8] (fun p wr => ∃ j : Nat, j ≤ T.l.length ∧ p = .int .i64 (j : Int) ∧ Hid (ZI w4 g o j wr)) (fun p _ => T.l.length - (intOf p).toNat)
    case atStart => exact ⟨0, Nat.zero_le _, rfl, hI0⟩
    case round =>
      obtain ⟨j, hj, rfl, hZ⟩ := hrel
      clear hI0
      have hj0 : (0 : Int) ≤ (j : Int) := by omega
      have h6w : b6 < w4.heap.size := HB6'.out.lt
      have hbk := HB6'.out.keep (hZ.out.kp.block _ h6w (fun e => by omega))
      obtain ⟨q0, q1, q2⟩ := hbk.cells3
      clear hbk
      by_cases hlt : j < T.l.length
      · have hltI : (j : Int) < (T.l.length : Int) := by omega
        obtain ⟨x, hx⟩ : ∃ x, T.l[j]? = some x := ⟨_, List.getElem?_eq_getElem hlt⟩
        obtain rfl : S' = some ⟨g, o, none⟩ := HSC.out (by intro e; rw [e] at hlt; simp at hlt)
        obtain ⟨X, cx, he, _, _, hls4⟩ := HIN4.out.slice
        obtain ⟨b', o', sx, hbe, _, _, _, n0, n1, n2, _⟩ := hls4.at_ hx
        simp only [Option.some.injEq, Addr.mk.injEq] at hbe
        obtain ⟨rfl, rfl, _⟩ := hbe
        obtain ⟨cs, hbg⟩ := hZ.out.blk
        have f0 := hbg.frozen (o + j * 3)
        have f1 := hbg.frozen (o + j * 3 + 1)
        have f2 := hbg.frozen (o + j * 3 + 2)
        have hgl := hbg.lt
        have m0 := (hZ.out.hi (o + j * 3) (Nat.le_refl _)).trans n0
        have m1 := (hZ.out.hi (o + j * 3 + 1) (by omega)).trans n1
        have m2 := (hZ.out.hi (o + j * 3 + 2) (by omega)).trans n2
        clear hx hls4 he hbg n0 n1 n2
        go_wp2_with fail
        exact ⟨⟨j + 1, by omega, by go_num, Lib.hid hZ.out.next⟩, by simp [intOf]; omega⟩
      · have hltI : ¬ (j : Int) < (T.l.length : Int) := by omega
        have hkF : ∀ k, k = g → w.heap.size + 1 + 1 < k ∧ b5 < k := fun k e => by
          subst e
          have h1 := hp.out.b2.lt
          have h2 := hg2.out
          omega
        have hpZ := Lib.hid ((hp3.out.below hPQ.out.2).keep hZ.out.kp (fun k e => (hkF k e).1))
        have hwsZ := Lib.hid ((hws3.out.below hPQ.out.2).keep hZ.out.kp (fun k e => ⟨by have := (hkF k e).1; omega, (hkF k e).2⟩))
        have hlg : g < W3.heap.size := by omega
        have hPS := Lib.hid (hPQ.out.1.pseq hZ.out.kp hlg HT1.out)
        have HEN := Lib.hid (show ∀ (args : Array Value) (w : World), (callFunc gf args).run Try.prog w = .ok (.enter gf args) w from hPQ.out.1.enters)
        clear hkF hlt hj hZ HIN4 HB6' HSC hPQ hp3 hws3 hg2 hlg h6w hp hws hb23 hin3 HB6 h6l hb5l hg6 heq
        obtain ⟨⟨x0, x1, x2⟩, y0, z0, z1⟩ := hpZ.out.cells
        go_wp2_with fail
        clear q0 q1 q2
        have HS0 : Hid (PT w T A c many S d b5 wr wr) := Lib.hid ⟨hpZ.out, hwsZ.out, Below.refl _ _⟩
        have HLW := Lib.hid hpZ.out.bl.size
        clear hpZ hwsZ
        refine wp_loop_rounds 3 ?_
        rw [rounds_succ]
        go_wp2_with fail
        clear x0 x1 x2 y0 z0 z1
        obtain ⟨gT0, hgT⟩ : ∃ g, wr.heap.size = g := ⟨_, rfl⟩
        obtain ⟨V0, hV⟩ : ∃ V, (wr.alloc (.cells #[.int .i64 0] 3)).alloc (.cells #[.int .i64 0] 3) = V := ⟨_, rfl⟩
        have hb7 : Below wr.heap.size wr V0 := by rw [← hV]; exact below2 wr _ _
        have hT7 : Blk V0 gT0 3 #[.int .i64 0] := by rw [← hV, ← hgT]; exact (Blk.new wr _ _).alloc _
        have hN7 : Blk V0 (gT0 + 1) 3 #[.int .i64 0] := by
          rw [← hV, ← hgT]
          have := Blk.new (wr.alloc (.cells #[.int .i64 0] 3)) 3 #[.int .i64 0]
          rwa [World.size_alloc] at this
        have hs7 : gT0 + 1 < V0.heap.size := hN7.lt
        have HB0 : Hid (∀ X, Below (gT0 + 1) V0 X → PT w T A c many S d b5 wr X ∧ Blk X gT0 3 #[.int .i64 0] ∧ Below wr.heap.size wr X) := Lib.hid (fun X hX => ⟨HS0.out.below (hb7.trans (hX.mono (by omega))), hT7.keep (hX.block _ (by omega)), hb7.trans (hX.mono (by omega))⟩)
        have hgl0 : w.heap.size + 1 + 1 < gT0 ∧ b5 < gT0 := by have h1 := HS0.out.p3.b2.lt; have h2 := HS0.out.ws.bx.lt; omega
        have HS7 := Lib.hid hs7
        have HG0 := Lib.hid hgT
        have hI0 : RT (gT0 + 1) V0 0 V0 := ⟨hN7, Below.refl _ _⟩
        rw [hV, hgT]
        clear hT7 hN7 hb7 hV hgT hs7 HS0
        obtain ⟨Snap0, hSq, hSn⟩ := hPS.out
        refine wp_rangeN_join 4 4 rfl HEN.out hSq (fun X i x xa hx => by obtain ⟨S, c, rfl, _⟩ := hx; rfl)
          (fun pre X => RT (gT0 + 1) V0 pre.length X ∧ pre.length ≤ 256 ∧ LimP true many pre)
          (fun _ X => RTj (gT0 + 1) V0 (endN true (wantOf T).length many) X)
          (fun s X Y hs hk => ⟨hs.1.keepB hk HS7.out (Nat.le_of_lt HS7.out), hs.2⟩)
          (fun s X Y hs hk => hs.keepB hk HS7.out (Nat.le_of_lt HS7.out))
          (fun pre X hi' => hSn _ _ (HB0.out _ hi'.1.bl).1.bl hi'.2.1)
          ⟨hI0, by simp, fun _ => .inl rfl⟩ (fun _ _ h => h) ?round0 (fun X h => ?hend0) ?rest0
        case hend0 =>
          have e0 : ((wantOf T).length : Int) = endN true (wantOf T).length many := by
            unfold endN
            simp only [if_true]
            rcases h.2.2 rfl with h1 | h1
            · rw [h1]; simp; omega
            · omega
          have hc := h.1.cell
          rw [e0] at hc
          exact ⟨hc, h.1.bl⟩
        case round0 =>
          intro l' pre p rest W1 xa hsz1 hx hi' hxa
          obtain ⟨Sx, cx, rfl, hinx⟩ := hxa
          have hpl : pre.length + 1 ≤ 256 := by
            have h1 := want_len T
            have h2 := HT1.out
            rw [hx] at h1
            simp at h1
            omega
          have hbox : Blk (W1.alloc (.cells #[.int .i64 p.2.k, .int .i64 p.2.n, .slice Sx p.2.l.length cx] 36)) W1.heap.size 36 #[.int .i64 p.2.k, .int .i64 p.2.n, .slice Sx p.2.l.length cx] := Blk.new _ _ _
          gi_wp2
          refine ⟨(Since.refl _ _).alloc _, ⟨hi'.1.below ((Below.refl _ W1).alloc (Nat.le_refl _) _), hi'.2⟩, ?_⟩
          rintro W2 ht ⟨hpk, _, hlim⟩
          have hbox2 := ht.blk hbox
          have hszW : W1.heap.size ≤ W2.heap.size := Nat.le_of_lt hbox2.lt
          obtain ⟨y0, y1, y2⟩ := hbox2.cells3
          obtain ⟨hPT, hT2, _⟩ := HB0.out W2 hpk.bl
          obtain ⟨_, v0, _, _⟩ := hPT.p3.cells
          have hat : (wantOf T)[pre.length]? = some p := by rw [hx]; simp
          have hlt0 : pre.length < (wantOf T).length := (List.getElem?_eq_some_iff.1 hat).1
          have hltI : ¬ ((wantOf T).length : Int) ≤ (pre.length : Int) := by omega
          obtain ⟨xs, hrow, henc⟩ := hPT.ws.ex
          obtain ⟨s0, a0, a1, a2, a3, hin0⟩ := henc.at_ _ _ hat
          obtain ⟨g5, cap, cur, hv, _, _, _, _, _⟩ := hrow.addr (by omega)
          simp only [Value.slice.injEq] at hv
          obtain ⟨rfl, _, rfl⟩ := hv
          have hcs := hrow.cells rfl
          obtain ⟨S0, ec, rfl, _, _, _⟩ := hin0.slice
          have e0 := (hcs (pre.length * 4) (by omega)).1.trans a0
          have e1 := (hcs (pre.length * 4 + 1) (by omega)).1.trans a1
          have e2 := (hcs (pre.length * 4 + 2) (by omega)).1.trans a2
          have e3 := (hcs (pre.length * 4 + 3) (by omega)).1.trans a3
          have w0 := (hPT.ws.bx.cell 0)
          have n0 := hpk.cell.cell 0
          have t0 := hT2.cell 0
          simp at w0 n0 t0
          have hps : p.2.size ≤ 256 := Nat.le_trans (want_size T p (by rw [hx]; simp)) HT1.out
          have hyin := ((hinx.after ((Below.refl _ W1).alloc (Nat.le_refl _) (.cells #[.int .i64 p.2.k, .int .i64 p.2.n, .slice Sx p.2.l.length cx] 36))).turnedP ht).mono (Nat.le_refl _) hszW
          have hsm := (rSame_ok W2.drew (hyin.after (Below.refl _ W2).drew) ((hin0.mono (Nat.le_refl _) hPT.ws.sz).after (Below.refl _ W2).drew) (Nat.le_refl _) (Nat.le_trans hps (by omega)) (Nat.le_trans hps (by omega))).mono
            (R' := fun e w' => e = .returned (.bool true) ∧ Hid (RT (gT0 + 1) V0 pre.length w' ∧ Since V0.heap.size W2 w' ∧ Below W2.heap.size W2 w'))
            (fun e w' q => by
              have hb : Below W2.heap.size W2 w' := (Below.refl _ W2).drew.trans q.2
              exact ⟨by rw [q.1, same_self]; simp [hps], Lib.hid ⟨hpk.below hb, since_below hb, hb⟩⟩)
          have HC := Lib.hid hsm
          have hp0 : (0 : Int) ≤ (pre.length : Int) := by omega
          have hpI : (pre.length : Int) < ((wantOf T).length : Int) := by omega
          have HLIM := Lib.hid hlim
          have HK := Lib.hid hpk
          have HXX := Lib.hid hx
          clear hsm hyin hps hcs a0 a1 a2 a3 hin0 henc hrow hPT hT2 hpk ht hbox hbox2 hinx hi' hx hat hlim hI0 hSn hSq
          gi_wp2_with fail
          have hdN : decide ((wantOf T).length ≤ pre.length) = false := decide_eq_false (by omega)
          have hdI : decide (((wantOf T).length : Int) ≤ (pre.length : Int)) = false := decide_eq_false (by omega)
          refine wpIn_region_held (S := fun w' => w'.cell? ⟨gT0 + 1, 0, none⟩ = some (.int .i64 (pre.length : Int)) ∧ w'.cell? ⟨b5, 0, none⟩ = some (.slice (some ⟨g5, 0, none⟩) (wantOf T).length d) ∧ w'.cell? ⟨W1.heap.size, 0, none⟩ = some (.int .i64 p.2.k) ∧ w'.cell? ⟨W1.heap.size, 1, none⟩ = some (.int .i64 p.2.n) ∧ w'.cell? ⟨W1.heap.size, 2, none⟩ = some (.slice Sx p.2.l.length cx) ∧ w'.cell? ⟨g5, pre.length * 4, none⟩ = some (.int .i64 (p.1 : Int)) ∧ w'.cell? ⟨g5, pre.length * 4 + 1, none⟩ = some (.int .i64 p.2.k) ∧ w'.cell? ⟨g5, pre.length * 4 + 2, none⟩ = some (.int .i64 p.2.n) ∧ w'.cell? ⟨g5, pre.length * 4 + 3, none⟩ = some (.slice S0 p.2.l.length ec)) (by kernel_rfl) (by kernel_rfl) ⟨n0, w0, y0, y1, y2, e0, e1, e2, e3⟩ (fun hHeld => ?_)
          refine wpAnyH_take (i := 0) (oi := { dst := some 44, op := Op.load 3 (Operand.tmp 10), type := 3, pos := "law.go:107", after := #[], guard := none }) (v := ?_) rfl (by kernel_rfl) (by kernel_rfl) (by kernel_rfl) (fun _ _ _ h => h) (Or.inl ⟨by rfl, ?_⟩) (by assumption) ?_
          rotate_left
          · intro w hSw; (try dsimp only at hSw); go_simp; try with_reducible rfl
          try simp only [Act.put, List.setIfInBounds_toArray, List.set_cons_zero, List.set_cons_succ]
          refine wpAnyH_take (i := 1) (oi := { dst := some 45, op := Op.load 38 (Operand.tmp 5), type := 38, pos := "law.go:107", after := #[], guard := none }) (v := ?_) rfl (by kernel_rfl) (by kernel_rfl) (by kernel_rfl) (fun _ _ _ h => h) (Or.inl ⟨by rfl, ?_⟩) (by assumption) ?_
          rotate_left
          · intro w hSw; (try dsimp only at hSw); go_simp; try with_reducible rfl
          try simp only [Act.put, List.setIfInBounds_toArray, List.set_cons_zero, List.set_cons_succ]
          refine wpAnyH_take (i := 2) (oi := { dst := some 46, op := Op.call { callee := Callee.builtin Builtin.len, args := #[Operand.tmp 45], argTypes := #[38] }, type := 3, pos := "law.go:107", after := #[{ on := 1, ground := Ground.data }], guard := none }) (v := ?_) rfl (by kernel_rfl) (by kernel_rfl) (by kernel_rfl) (fun _ _ _ h => h) (Or.inl ⟨by rfl, ?_⟩) (by assumption) ?_
          rotate_left
          · intro w hSw; (try dsimp only at hSw); go_simp; try with_reducible rfl
          try simp only [Act.put, List.setIfInBounds_toArray, List.set_cons_zero, List.set_cons_succ]
          refine wpAnyH_take (i := 3) (oi := { dst := some 47, op := Op.binOp BinOp.geq 3 (Operand.tmp 44) (Operand.tmp 46) 3, type := 4, pos := "law.go:107", after := #[{ on := 0, ground := Ground.data }, { on := 2, ground := Ground.data }], guard := none }) (v := ?_) rfl (by kernel_rfl) (by kernel_rfl) (by kernel_rfl) (fun _ _ _ h => h) (Or.inl ⟨by rfl, ?_⟩) (by assumption) ?_
          rotate_left
          · intro w hSw; (try dsimp only at hSw); go_simp; try with_reducible rfl
          try simp only [Act.put, List.setIfInBounds_toArray, List.set_cons_zero, List.set_cons_succ]
          refine wpAnyH_take (i := 4) (oi := { dst := some 48, op := Op.move (Operand.tmp 47), type := 4, pos := "law.go:107", after := #[{ on := 3, ground := Ground.data }], guard := none }) (v := ?_) rfl (by kernel_rfl) (by kernel_rfl) (by kernel_rfl) (fun _ _ _ h => h) (Or.inl ⟨by rfl, ?_⟩) (by assumption) ?_
          rotate_left
          · intro w hSw; (try dsimp only at hSw); go_simp; try with_reducible rfl
          try simp only [Act.put, List.setIfInBounds_toArray, List.set_cons_zero, List.set_cons_succ]
          refine wpAnyH_take (i := 5) (oi := { dst := some 49, op := Op.move (Operand.tmp 11), type := 3, pos := "law.go:107", after := #[{ on := 4, ground := Ground.guard }], guard := some (4, false) }) (v := ?_) rfl (by kernel_rfl) (by kernel_rfl) (by kernel_rfl) (fun _ _ _ h => h) (Or.inl ⟨by rfl, ?_⟩) (by assumption) ?_
          rotate_left
          · intro w hSw; (try dsimp only at hSw); go_simp; try with_reducible rfl
          try simp only [Act.put, List.setIfInBounds_toArray, List.set_cons_zero, List.set_cons_succ]
          refine wpAnyH_take (i := 6) (oi := { dst := some 50, op := Op.load 38 (Operand.tmp 5), type := 38, pos := "law.go:107", after := #[{ on := 4, ground := Ground.guard }], guard := some (4, false) }) (v := ?_) rfl (by kernel_rfl) (by kernel_rfl) (by kernel_rfl) (fun _ _ _ h => h) (Or.inl ⟨by rfl, ?_⟩) (by assumption) ?_
          rotate_left
          · intro w hSw; (try dsimp only at hSw); go_simp; try with_reducible rfl
          try simp only [Act.put, List.setIfInBounds_toArray, List.set_cons_zero, List.set_cons_succ]
          refine wpAnyH_take (i := 7) (oi := { dst := some 51, op := Op.load 3 (Operand.tmp 10), type := 3, pos := "law.go:107", after := #[{ on := 4, ground := Ground.guard }], guard := some (4, false) }) (v := ?_) rfl (by kernel_rfl) (by kernel_rfl) (by kernel_rfl) (fun _ _ _ h => h) (Or.inl ⟨by rfl, ?_⟩) (by assumption) ?_
          rotate_left
          · intro w hSw; (try dsimp only at hSw); go_simp; try with_reducible rfl
          try simp only [Act.put, List.setIfInBounds_toArray, List.set_cons_zero, List.set_cons_succ]
          refine wpAnyH_take (i := 8) (oi := { dst := some 52, op := Op.indexAddr 38 (Operand.tmp 50) (Operand.tmp 51), type := 0, pos := "law.go:107", after := #[{ on := 6, ground := Ground.data }, { on := 7, ground := Ground.data }, { on := 4, ground := Ground.guard }], guard := some (4, false) }) (v := ?_) rfl (by kernel_rfl) (by kernel_rfl) (by kernel_rfl) (fun _ _ _ h => h) (Or.inl ⟨by rfl, ?_⟩) (by assumption) ?_
          rotate_left
          · intro w hSw; (try dsimp only at hSw); go_simp; try with_reducible rfl
          try simp only [Act.put, List.setIfInBounds_toArray, List.set_cons_zero, List.set_cons_succ]
          refine wpAnyH_take (i := 9) (oi := { dst := some 53, op := Op.fieldAddr 45 (Operand.tmp 52) 0, type := 0, pos := "law.go:107", after := #[{ on := 8, ground := Ground.data }, { on := 4, ground := Ground.guard }], guard := some (4, false) }) (v := ?_) rfl (by kernel_rfl) (by kernel_rfl) (by kernel_rfl) (fun _ _ _ h => h) (Or.inl ⟨by rfl, ?_⟩) (by assumption) ?_
          rotate_left
          · intro w hSw; (try dsimp only at hSw); go_simp; try with_reducible rfl
          try simp only [Act.put, List.setIfInBounds_toArray, List.set_cons_zero, List.set_cons_succ]
          refine wpAnyH_take (i := 10) (oi := { dst := some 54, op := Op.load 3 (Operand.tmp 53), type := 3, pos := "law.go:107", after := #[{ on := 9, ground := Ground.data }, { on := 4, ground := Ground.guard }], guard := some (4, false) }) (v := ?_) rfl (by kernel_rfl) (by kernel_rfl) (by kernel_rfl) (fun _ _ _ h => h) (Or.inl ⟨by rfl, ?_⟩) (by assumption) ?_
          rotate_left
          · intro w hSw; (try dsimp only at hSw); go_simp; try with_reducible rfl
          try simp only [Act.put, List.setIfInBounds_toArray, List.set_cons_zero, List.set_cons_succ]
          refine wpAnyH_take (i := 11) (oi := { dst := some 55, op := Op.binOp BinOp.neq 3 (Operand.tmp 49) (Operand.tmp 54) 3, type := 4, pos := "law.go:107", after := #[{ on := 5, ground := Ground.data }, { on := 10, ground := Ground.data }, { on := 4, ground := Ground.guard }], guard := some (4, false) }) (v := ?_) rfl (by kernel_rfl) (by kernel_rfl) (by kernel_rfl) (fun _ _ _ h => h) (Or.inl ⟨by rfl, ?_⟩) (by assumption) ?_
          rotate_left
          · intro w hSw; (try dsimp only at hSw); go_simp; try with_reducible rfl
          try simp only [Act.put, List.setIfInBounds_toArray, List.set_cons_zero, List.set_cons_succ]
          refine wpAnyH_take (i := 12) (oi := { dst := some 56, op := Op.pick (Operand.tmp 48) (Operand.const (Value.bool true)) (Operand.tmp 55), type := 4, pos := "law.go:107", after := #[{ on := 4, ground := Ground.data }, { on := 11, ground := Ground.data }], guard := none }) (v := ?_) rfl (by kernel_rfl) (by kernel_rfl) (by kernel_rfl) (fun _ _ _ h => h) (Or.inl ⟨by rfl, ?_⟩) (by assumption) ?_
          rotate_left
          · intro w hSw; (try dsimp only at hSw); go_simp; try with_reducible rfl
          try simp only [Act.put, List.setIfInBounds_toArray, List.set_cons_zero, List.set_cons_succ]
          refine wpAnyH_take (i := 13) (oi := { dst := some 57, op := Op.move (Operand.tmp 56), type := 4, pos := "law.go:107", after := #[{ on := 12, ground := Ground.data }, { on := 4, ground := Ground.chain }], guard := none }) (v := ?_) rfl (by kernel_rfl) (by kernel_rfl) (by kernel_rfl) (fun _ _ _ h => h) (Or.inl ⟨by rfl, ?_⟩) (by assumption) ?_
          rotate_left
          · intro w hSw; (try dsimp only at hSw); go_simp; try with_reducible rfl
          try simp only [Act.put, List.setIfInBounds_toArray, List.set_cons_zero, List.set_cons_succ]
          refine wpAnyH_take (i := 14) (oi := { dst := some 58, op := Op.load 36 (Operand.tmp 12), type := 36, pos := "law.go:107", after := #[{ on := 13, ground := Ground.guard }], guard := some (13, false) }) (v := ?_) rfl (by kernel_rfl) (by kernel_rfl) (by kernel_rfl) (fun _ _ _ h => h) (Or.inl ⟨by rfl, ?_⟩) (by assumption) ?_
          rotate_left
          · intro w hSw; (try dsimp only at hSw); go_simp; try with_reducible rfl
          try simp only [Act.put, List.setIfInBounds_toArray, List.set_cons_zero, List.set_cons_succ]
          refine wpAnyH_take (i := 15) (oi := { dst := some 59, op := Op.load 38 (Operand.tmp 5), type := 38, pos := "law.go:107", after := #[{ on := 13, ground := Ground.guard }], guard := some (13, false) }) (v := ?_) rfl (by kernel_rfl) (by kernel_rfl) (by kernel_rfl) (fun _ _ _ h => h) (Or.inl ⟨by rfl, ?_⟩) (by assumption) ?_
          rotate_left
          · intro w hSw; (try dsimp only at hSw); go_simp; try with_reducible rfl
          try simp only [Act.put, List.setIfInBounds_toArray, List.set_cons_zero, List.set_cons_succ]
          refine wpAnyH_take (i := 16) (oi := { dst := some 60, op := Op.load 3 (Operand.tmp 10), type := 3, pos := "law.go:107", after := #[{ on := 13, ground := Ground.guard }], guard := some (13, false) }) (v := ?_) rfl (by kernel_rfl) (by kernel_rfl) (by kernel_rfl) (fun _ _ _ h => h) (Or.inl ⟨by rfl, ?_⟩) (by assumption) ?_
          rotate_left
          · intro w hSw; (try dsimp only at hSw); go_simp; try with_reducible rfl
          try simp only [Act.put, List.setIfInBounds_toArray, List.set_cons_zero, List.set_cons_succ]
          refine wpAnyH_take (i := 17) (oi := { dst := some 61, op := Op.indexAddr 38 (Operand.tmp 59) (Operand.tmp 60), type := 0, pos := "law.go:107", after := #[{ on := 15, ground := Ground.data }, { on := 16, ground := Ground.data }, { on := 13, ground := Ground.guard }], guard := some (13, false) }) (v := ?_) rfl (by kernel_rfl) (by kernel_rfl) (by kernel_rfl) (fun _ _ _ h => h) (Or.inl ⟨by rfl, ?_⟩) (by assumption) ?_
          rotate_left
          · intro w hSw; (try dsimp only at hSw); go_simp; try with_reducible rfl
          try simp only [Act.put, List.setIfInBounds_toArray, List.set_cons_zero, List.set_cons_succ]
          refine wpAnyH_take (i := 18) (oi := { dst := some 62, op := Op.fieldAddr 45 (Operand.tmp 61) 1, type := 0, pos := "law.go:107", after := #[{ on := 17, ground := Ground.data }, { on := 13, ground := Ground.guard }], guard := some (13, false) }) (v := ?_) rfl (by kernel_rfl) (by kernel_rfl) (by kernel_rfl) (fun _ _ _ h => h) (Or.inl ⟨by rfl, ?_⟩) (by assumption) ?_
          rotate_left
          · intro w hSw; (try dsimp only at hSw); go_simp; try with_reducible rfl
          try simp only [Act.put, List.setIfInBounds_toArray, List.set_cons_zero, List.set_cons_succ]
          refine wpAnyH_take (i := 19) (oi := { dst := some 63, op := Op.load 36 (Operand.tmp 62), type := 36, pos := "law.go:107", after := #[{ on := 18, ground := Ground.data }, { on := 13, ground := Ground.guard }], guard := some (13, false) }) (v := ?_) rfl (by kernel_rfl) (by kernel_rfl) (by kernel_rfl) (fun _ _ _ h => h) (Or.inl ⟨by rfl, ?_⟩) (by assumption) ?_
          rotate_left
          · intro w hSw; (try dsimp only at hSw); go_simp; try with_reducible rfl
          try simp only [Act.put, List.setIfInBounds_toArray, List.set_cons_zero, List.set_cons_succ]
          refine wpAnyH_ready (rs := [20]) (by kernel_rfl) (by simp) ?_
          refine AllReadyH.cons (o := { dst := some 64, op := Op.call { callee := Callee.value (Operand.func 24), args := #[Operand.tmp 58, Operand.tmp 63], argTypes := #[36, 36] }, type := 4, pos := "law.go:107", after := #[{ on := 14, ground := Ground.data }, { on := 19, ground := Ground.data }, { on := 13, ground := Ground.chain }, { on := 13, ground := Ground.guard }], guard := some (13, false) }) rfl (fun K hK => ?_) ?_
          · go_simp
            (go_at_call 24; refine HC.out.mono ?_; rintro e w5 ⟨rfl, hQ5⟩)
            refine hK.out _ _ (by have hb := hQ5.out.2.2; exact ⟨belP hb n0, belP hb w0, belP hb y0, belP hb y1, belP hb y2, belP hb e0, belP hb e1, belP hb e2, belP hb e3⟩) (fun hHeld => ?_)
            clear hK K
            try simp only [Act.put, List.setIfInBounds_toArray, List.set_cons_zero, List.set_cons_succ]
            refine wpAnyH_take (i := 21) (oi := { dst := some 65, op := Op.unOp UnOp.not 4 (Operand.tmp 64), type := 4, pos := "law.go:107", after := #[{ on := 20, ground := Ground.data }, { on := 13, ground := Ground.guard }], guard := some (13, false) }) (v := ?_) rfl (by kernel_rfl) (by kernel_rfl) (by kernel_rfl) (fun _ _ _ h => h) (Or.inl ⟨by rfl, ?_⟩) (by assumption) ?_
            rotate_left
            · intro w hSw; (try dsimp only at hSw); go_simp; try with_reducible rfl
            try simp only [Act.put, List.setIfInBounds_toArray, List.set_cons_zero, List.set_cons_succ]
            refine wpAnyH_take (i := 22) (oi := { dst := some 66, op := Op.pick (Operand.tmp 57) (Operand.const (Value.bool true)) (Operand.tmp 65), type := 4, pos := "law.go:107", after := #[{ on := 13, ground := Ground.data }, { on := 21, ground := Ground.data }], guard := none }) (v := ?_) rfl (by kernel_rfl) (by kernel_rfl) (by kernel_rfl) (fun _ _ _ h => h) (Or.inl ⟨by rfl, ?_⟩) (by assumption) ?_
            rotate_left
            · intro w hSw; (try dsimp only at hSw); go_simp; try with_reducible rfl
            try simp only [Act.put, List.setIfInBounds_toArray, List.set_cons_zero, List.set_cons_succ]
            refine wpAnyH_done (by kernel_rfl) ?_ _
            dsimp only [OnlyN]
            obtain ⟨HR5, HS5, _⟩ := hQ5.out
            obtain ⟨hPT5, hT5, _⟩ := HB0.out w5 HR5.bl
            obtain ⟨_, v5, _, _⟩ := hPT5.p3.cells
            have n5 := HR5.cell.cell 0
            have f5 := HR5.cell.frozen 0
            have t5 := hT5.cell 0
            simp at n5 t5
            have H5 := Lib.hid HR5
            have HSI := Lib.hid HS5
            clear hHeld HR5 HS5 hPT5 hT5 n0 t0 w0 y0 y1 y2 e0 e1 e2 e3 v0 hdN hdI hltI
            by_cases hmy : many ≤ (pre.length : Int) + 1
            · gi_wp2_with fail
              have hE : endN true (wantOf T).length many = (pre.length : Int) + 1 := by
                unfold endN; simp only [if_true]
                rcases HLIM.out rfl with h1 | h1
                · subst h1; simp at hmy hpI ⊢; omega
                · omega
              exact ⟨(HSI.out.setCell (by have := HS7.out; show gT0 + 1 < V0.heap.size; omega) _), rfl, by rw [hE]; exact by have := H5.out.cell.set 0 (.int .i64 ((pre.length : Int) + 1)); simpa using this, H5.out.bl.setCell (Nat.le_refl _) _⟩
            · gi_wp2_with fail
              have H4 : (pre ++ [p]).length = pre.length + 1 := by simp
              exact ⟨(HSI.out.setCell (by have := HS7.out; show gT0 + 1 < V0.heap.size; omega) _), by rw [H4]; exact H5.out.next, by omega, fun _ => .inr (by rw [H4]; omega)⟩
          exact AllReadyH.nil
        case rest0 =>
          rintro D0 pre U1 hD hj hdef
          obtain ⟨hPT, hT2, hbk⟩ := HB0.out _ hj.bl
          obtain ⟨⟨x0, x1, x2⟩, y0, z0, z1⟩ := hPT.p3.cells
          have w0 := hPT.ws.bx.cell 0
          have zT := hT2.cell 0
          have zN := hj.cell.cell 0
          simp at zT zN w0
          have hsz : gT0 + 1 < U1.heap.size := hj.cell.lt
          have HS1 := Lib.hid hPT
          have hlt0 : D0 < U1.heap.size := (Array.getElem?_eq_some_iff.1 hdef).1
          have hge0 : wr.heap.size ≤ D0 := by have := HS7.out; have := HG0.out; omega
          have HE0 := Lib.hid (And.intro hdef hlt0)
          have HL0 := Lib.hid (And.intro hge0 hlt0)
          clear hj hPT hT2 hdef hD HS7 HB0 hI0 hlt0 hge0 hbk HG0 hSq hSn
          obtain ⟨N, hN⟩ : ∃ N, endN true (wantOf T).length many = N := ⟨_, rfl⟩
          obtain ⟨M, hM⟩ : ∃ M, max 1 many = M := ⟨_, rfl⟩
          rw [hN] at zN
          have hmx : ∀ ats ty w, Sem.run Try.prog (Builtin.max_ ats ty #[.int .i64 1, .int .i64 many]) w = .ok (.int .i64 M) w := fun ats ty w => by rw [← hM]; exact run_max ats ty 1 many w
          have hmn : ∀ ats ty w, Sem.run Try.prog (Builtin.min_ ats ty #[.int .i64 ((wantOf T).length : Int), .int .i64 M]) w = .ok (.int .i64 N) w := fun ats ty w => by rw [← hN, ← hM]; exact run_min ats ty _ _ w
          have hNN : (N != N) = false := by simp
          clear hN hM
          go_upto_region 25 with fail
          clear hmx hmn hNN zN w0
          go_wp2_with fail
          rw [rounds_succ]
          go_wp2_with fail
          clear x0 x1 x2 y0 z0 z1 zT
          obtain ⟨gT1, hgT⟩ : ∃ g, U1.heap.size = g := ⟨_, rfl⟩
          obtain ⟨V1, hV⟩ : ∃ V, (U1.alloc (.cells #[.int .i64 1] 3)).alloc (.cells #[.int .i64 0] 3) = V := ⟨_, rfl⟩
          have hb7 : Below U1.heap.size U1 V1 := by rw [← hV]; exact below2 U1 _ _
          have hT7 : Blk V1 gT1 3 #[.int .i64 1] := by rw [← hV, ← hgT]; exact (Blk.new U1 _ _).alloc _
          have hN7 : Blk V1 (gT1 + 1) 3 #[.int .i64 0] := by
            rw [← hV, ← hgT]
            have := Blk.new (U1.alloc (.cells #[.int .i64 1] 3)) 3 #[.int .i64 0]
            rwa [World.size_alloc] at this
          have hs7 : gT1 + 1 < V1.heap.size := hN7.lt
          have HB1 : Hid (∀ X, Below (gT1 + 1) V1 X → PT w T A c many S d b5 wr X ∧ Blk X gT1 3 #[.int .i64 1] ∧ Below U1.heap.size U1 X) := Lib.hid (fun X hX => ⟨HS1.out.below (hb7.trans (hX.mono (by omega))), hT7.keep (hX.block _ (by omega)), hb7.trans (hX.mono (by omega))⟩)
          have hgl1 : w.heap.size + 1 + 1 < gT1 ∧ b5 < gT1 := by have h1 := HS1.out.p3.b2.lt; have h2 := HS1.out.ws.bx.lt; omega
          have HS7 := Lib.hid hs7
          have HG1 := Lib.hid hgT
          have hI0 : RT (gT1 + 1) V1 0 V1 := ⟨hN7, Below.refl _ _⟩
          rw [hV, hgT]
          clear hT7 hN7 hb7 hV hgT hs7 HS1
          obtain ⟨Snap1, hSq, hSn⟩ := hPS.out
          refine wp_rangeN_join 4 4 rfl HEN.out hSq (fun X i x xa hx => by obtain ⟨S, c, rfl, _⟩ := hx; rfl)
            (fun pre X => RT (gT1 + 1) V1 pre.length X ∧ pre.length ≤ 256 ∧ LimP false many pre)
            (fun _ X => RTj (gT1 + 1) V1 (endN false (wantOf T).length many) X)
            (fun s X Y hs hk => ⟨hs.1.keepB hk HS7.out (Nat.le_of_lt HS7.out), hs.2⟩)
            (fun s X Y hs hk => hs.keepB hk HS7.out (Nat.le_of_lt HS7.out))
            (fun pre X hi' => hSn _ _ (HB1.out _ hi'.1.bl).1.bl hi'.2.1)
            ⟨hI0, by simp, fun _ => .inl rfl⟩ (fun _ _ h => h) ?round1 (fun X h => ?hend1) ?rest1
          case hend1 =>
            have e0 : ((wantOf T).length : Int) = endN false (wantOf T).length many := by
              rfl
            have hc := h.1.cell
            rw [e0] at hc
            exact ⟨hc, h.1.bl⟩
          case round1 =>
            intro l' pre p rest W1 xa hsz1 hx hi' hxa
            obtain ⟨Sx, cx, rfl, hinx⟩ := hxa
            have hpl : pre.length + 1 ≤ 256 := by
              have h1 := want_len T
              have h2 := HT1.out
              rw [hx] at h1
              simp at h1
              omega
            have hbox : Blk (W1.alloc (.cells #[.int .i64 p.2.k, .int .i64 p.2.n, .slice Sx p.2.l.length cx] 36)) W1.heap.size 36 #[.int .i64 p.2.k, .int .i64 p.2.n, .slice Sx p.2.l.length cx] := Blk.new _ _ _
            gi_wp2
            refine ⟨(Since.refl _ _).alloc _, ⟨hi'.1.below ((Below.refl _ W1).alloc (Nat.le_refl _) _), hi'.2⟩, ?_⟩
            rintro W2 ht ⟨hpk, _, hlim⟩
            have hbox2 := ht.blk hbox
            have hszW : W1.heap.size ≤ W2.heap.size := Nat.le_of_lt hbox2.lt
            obtain ⟨y0, y1, y2⟩ := hbox2.cells3
            obtain ⟨hPT, hT2, _⟩ := HB1.out W2 hpk.bl
            obtain ⟨_, v0, _, _⟩ := hPT.p3.cells
            have hat : (wantOf T)[pre.length]? = some p := by rw [hx]; simp
            have hlt0 : pre.length < (wantOf T).length := (List.getElem?_eq_some_iff.1 hat).1
            have hltI : ¬ ((wantOf T).length : Int) ≤ (pre.length : Int) := by omega
            obtain ⟨xs, hrow, henc⟩ := hPT.ws.ex
            obtain ⟨s0, a0, a1, a2, a3, hin0⟩ := henc.at_ _ _ hat
            obtain ⟨g5, cap, cur, hv, _, _, _, _, _⟩ := hrow.addr (by omega)
            simp only [Value.slice.injEq] at hv
            obtain ⟨rfl, _, rfl⟩ := hv
            have hcs := hrow.cells rfl
            obtain ⟨S0, ec, rfl, _, _, _⟩ := hin0.slice
            have e0 := (hcs (pre.length * 4) (by omega)).1.trans a0
            have e1 := (hcs (pre.length * 4 + 1) (by omega)).1.trans a1
            have e2 := (hcs (pre.length * 4 + 2) (by omega)).1.trans a2
            have e3 := (hcs (pre.length * 4 + 3) (by omega)).1.trans a3
            have w0 := (hPT.ws.bx.cell 0)
            have n0 := hpk.cell.cell 0
            have t0 := hT2.cell 0
            simp at w0 n0 t0
            have hps : p.2.size ≤ 256 := Nat.le_trans (want_size T p (by rw [hx]; simp)) HT1.out
            have hyin := ((hinx.after ((Below.refl _ W1).alloc (Nat.le_refl _) (.cells #[.int .i64 p.2.k, .int .i64 p.2.n, .slice Sx p.2.l.length cx] 36))).turnedP ht).mono (Nat.le_refl _) hszW
            have hsm := (rSame_ok W2.drew (hyin.after (Below.refl _ W2).drew) ((hin0.mono (Nat.le_refl _) hPT.ws.sz).after (Below.refl _ W2).drew) (Nat.le_refl _) (Nat.le_trans hps (by omega)) (Nat.le_trans hps (by omega))).mono
              (R' := fun e w' => e = .returned (.bool true) ∧ Hid (RT (gT1 + 1) V1 pre.length w' ∧ Since V1.heap.size W2 w' ∧ Below W2.heap.size W2 w'))
              (fun e w' q => by
                have hb : Below W2.heap.size W2 w' := (Below.refl _ W2).drew.trans q.2
                exact ⟨by rw [q.1, same_self]; simp [hps], Lib.hid ⟨hpk.below hb, since_below hb, hb⟩⟩)
            have HC := Lib.hid hsm
            have hp0 : (0 : Int) ≤ (pre.length : Int) := by omega
            have hpI : (pre.length : Int) < ((wantOf T).length : Int) := by omega
            have HLIM := Lib.hid hlim
            have HK := Lib.hid hpk
            have HXX := Lib.hid hx
            clear hsm hyin hps hcs a0 a1 a2 a3 hin0 henc hrow hPT hT2 hpk ht hbox hbox2 hinx hi' hx hat hlim hI0 hSn hSq
            gi_wp2_with fail
            have hdN : decide ((wantOf T).length ≤ pre.length) = false := decide_eq_false (by omega)
            have hdI : decide (((wantOf T).length : Int) ≤ (pre.length : Int)) = false := decide_eq_false (by omega)
            refine wpIn_region_held (S := fun w' => w'.cell? ⟨gT1 + 1, 0, none⟩ = some (.int .i64 (pre.length : Int)) ∧ w'.cell? ⟨b5, 0, none⟩ = some (.slice (some ⟨g5, 0, none⟩) (wantOf T).length d) ∧ w'.cell? ⟨W1.heap.size, 0, none⟩ = some (.int .i64 p.2.k) ∧ w'.cell? ⟨W1.heap.size, 1, none⟩ = some (.int .i64 p.2.n) ∧ w'.cell? ⟨W1.heap.size, 2, none⟩ = some (.slice Sx p.2.l.length cx) ∧ w'.cell? ⟨g5, pre.length * 4, none⟩ = some (.int .i64 (p.1 : Int)) ∧ w'.cell? ⟨g5, pre.length * 4 + 1, none⟩ = some (.int .i64 p.2.k) ∧ w'.cell? ⟨g5, pre.length * 4 + 2, none⟩ = some (.int .i64 p.2.n) ∧ w'.cell? ⟨g5, pre.length * 4 + 3, none⟩ = some (.slice S0 p.2.l.length ec)) (by kernel_rfl) (by kernel_rfl) ⟨n0, w0, y0, y1, y2, e0, e1, e2, e3⟩ (fun hHeld => ?_)
            refine wpAnyH_take (i := 0) (oi := { dst := some 44, op := Op.load 3 (Operand.tmp 10), type := 3, pos := "law.go:107", after := #[], guard := none }) (v := ?_) rfl (by kernel_rfl) (by kernel_rfl) (by kernel_rfl) (fun _ _ _ h => h) (Or.inl ⟨by rfl, ?_⟩) (by assumption) ?_
            rotate_left
            · intro w hSw; (try dsimp only at hSw); go_simp; try with_reducible rfl
            try simp only [Act.put, List.setIfInBounds_toArray, List.set_cons_zero, List.set_cons_succ]
            refine wpAnyH_take (i := 1) (oi := { dst := some 45, op := Op.load 38 (Operand.tmp 5), type := 38, pos := "law.go:107", after := #[], guard := none }) (v := ?_) rfl (by kernel_rfl) (by kernel_rfl) (by kernel_rfl) (fun _ _ _ h => h) (Or.inl ⟨by rfl, ?_⟩) (by assumption) ?_
            rotate_left
            · intro w hSw; (try dsimp only at hSw); go_simp; try with_reducible rfl
            try simp only [Act.put, List.setIfInBounds_toArray, List.set_cons_zero, List.set_cons_succ]
            refine wpAnyH_take (i := 2) (oi := { dst := some 46, op := Op.call { callee := Callee.builtin Builtin.len, args := #[Operand.tmp 45], argTypes := #[38] }, type := 3, pos := "law.go:107", after := #[{ on := 1, ground := Ground.data }], guard := none }) (v := ?_) rfl (by kernel_rfl) (by kernel_rfl) (by kernel_rfl) (fun _ _ _ h => h) (Or.inl ⟨by rfl, ?_⟩) (by assumption) ?_
            rotate_left
            · intro w hSw; (try dsimp only at hSw); go_simp; try with_reducible rfl
            try simp only [Act.put, List.setIfInBounds_toArray, List.set_cons_zero, List.set_cons_succ]
            refine wpAnyH_take (i := 3) (oi := { dst := some 47, op := Op.binOp BinOp.geq 3 (Operand.tmp 44) (Operand.tmp 46) 3, type := 4, pos := "law.go:107", after := #[{ on := 0, ground := Ground.data }, { on := 2, ground := Ground.data }], guard := none }) (v := ?_) rfl (by kernel_rfl) (by kernel_rfl) (by kernel_rfl) (fun _ _ _ h => h) (Or.inl ⟨by rfl, ?_⟩) (by assumption) ?_
            rotate_left
            · intro w hSw; (try dsimp only at hSw); go_simp; try with_reducible rfl
            try simp only [Act.put, List.setIfInBounds_toArray, List.set_cons_zero, List.set_cons_succ]
            refine wpAnyH_take (i := 4) (oi := { dst := some 48, op := Op.move (Operand.tmp 47), type := 4, pos := "law.go:107", after := #[{ on := 3, ground := Ground.data }], guard := none }) (v := ?_) rfl (by kernel_rfl) (by kernel_rfl) (by kernel_rfl) (fun _ _ _ h => h) (Or.inl ⟨by rfl, ?_⟩) (by assumption) ?_
            rotate_left
            · intro w hSw; (try dsimp only at hSw); go_simp; try with_reducible rfl
            try simp only [Act.put, List.setIfInBounds_toArray, List.set_cons_zero, List.set_cons_succ]
            refine wpAnyH_take (i := 5) (oi := { dst := some 49, op := Op.move (Operand.tmp 11), type := 3, pos := "law.go:107", after := #[{ on := 4, ground := Ground.guard }], guard := some (4, false) }) (v := ?_) rfl (by kernel_rfl) (by kernel_rfl) (by kernel_rfl) (fun _ _ _ h => h) (Or.inl ⟨by rfl, ?_⟩) (by assumption) ?_
            rotate_left
            · intro w hSw; (try dsimp only at hSw); go_simp; try with_reducible rfl
            try simp only [Act.put, List.setIfInBounds_toArray, List.set_cons_zero, List.set_cons_succ]
            refine wpAnyH_take (i := 6) (oi := { dst := some 50, op := Op.load 38 (Operand.tmp 5), type := 38, pos := "law.go:107", after := #[{ on := 4, ground := Ground.guard }], guard := some (4, false) }) (v := ?_) rfl (by kernel_rfl) (by kernel_rfl) (by kernel_rfl) (fun _ _ _ h => h) (Or.inl ⟨by rfl, ?_⟩) (by assumption) ?_
            rotate_left
            · intro w hSw; (try dsimp only at hSw); go_simp; try with_reducible rfl
            try simp only [Act.put, List.setIfInBounds_toArray, List.set_cons_zero, List.set_cons_succ]
            refine wpAnyH_take (i := 7) (oi := { dst := some 51, op := Op.load 3 (Operand.tmp 10), type := 3, pos := "law.go:107", after := #[{ on := 4, ground := Ground.guard }], guard := some (4, false) }) (v := ?_) rfl (by kernel_rfl) (by kernel_rfl) (by kernel_rfl) (fun _ _ _ h => h) (Or.inl ⟨by rfl, ?_⟩) (by assumption) ?_
            rotate_left
            · intro w hSw; (try dsimp only at hSw); go_simp; try with_reducible rfl
            try simp only [Act.put, List.setIfInBounds_toArray, List.set_cons_zero, List.set_cons_succ]
            refine wpAnyH_take (i := 8) (oi := { dst := some 52, op := Op.indexAddr 38 (Operand.tmp 50) (Operand.tmp 51), type := 0, pos := "law.go:107", after := #[{ on := 6, ground := Ground.data }, { on := 7, ground := Ground.data }, { on := 4, ground := Ground.guard }], guard := some (4, false) }) (v := ?_) rfl (by kernel_rfl) (by kernel_rfl) (by kernel_rfl) (fun _ _ _ h => h) (Or.inl ⟨by rfl, ?_⟩) (by assumption) ?_
            rotate_left
            · intro w hSw; (try dsimp only at hSw); go_simp; try with_reducible rfl
            try simp only [Act.put, List.setIfInBounds_toArray, List.set_cons_zero, List.set_cons_succ]
            refine wpAnyH_take (i := 9) (oi := { dst := some 53, op := Op.fieldAddr 45 (Operand.tmp 52) 0, type := 0, pos := "law.go:107", after := #[{ on := 8, ground := Ground.data }, { on := 4, ground := Ground.guard }], guard := some (4, false) }) (v := ?_) rfl (by kernel_rfl) (by kernel_rfl) (by kernel_rfl) (fun _ _ _ h => h) (Or.inl ⟨by rfl, ?_⟩) (by assumption) ?_
            rotate_left
            · intro w hSw; (try dsimp only at hSw); go_simp; try with_reducible rfl
            try simp only [Act.put, List.setIfInBounds_toArray, List.set_cons_zero, List.set_cons_succ]
            refine wpAnyH_take (i := 10) (oi := { dst := some 54, op := Op.load 3 (Operand.tmp 53), type := 3, pos := "law.go:107", after := #[{ on := 9, ground := Ground.data }, { on := 4, ground := Ground.guard }], guard := some (4, false) }) (v := ?_) rfl (by kernel_rfl) (by kernel_rfl) (by kernel_rfl) (fun _ _ _ h => h) (Or.inl ⟨by rfl, ?_⟩) (by assumption) ?_
            rotate_left
            · intro w hSw; (try dsimp only at hSw); go_simp; try with_reducible rfl
            try simp only [Act.put, List.setIfInBounds_toArray, List.set_cons_zero, List.set_cons_succ]
            refine wpAnyH_take (i := 11) (oi := { dst := some 55, op := Op.binOp BinOp.neq 3 (Operand.tmp 49) (Operand.tmp 54) 3, type := 4, pos := "law.go:107", after := #[{ on := 5, ground := Ground.data }, { on := 10, ground := Ground.data }, { on := 4, ground := Ground.guard }], guard := some (4, false) }) (v := ?_) rfl (by kernel_rfl) (by kernel_rfl) (by kernel_rfl) (fun _ _ _ h => h) (Or.inl ⟨by rfl, ?_⟩) (by assumption) ?_
            rotate_left
            · intro w hSw; (try dsimp only at hSw); go_simp; try with_reducible rfl
            try simp only [Act.put, List.setIfInBounds_toArray, List.set_cons_zero, List.set_cons_succ]
            refine wpAnyH_take (i := 12) (oi := { dst := some 56, op := Op.pick (Operand.tmp 48) (Operand.const (Value.bool true)) (Operand.tmp 55), type := 4, pos := "law.go:107", after := #[{ on := 4, ground := Ground.data }, { on := 11, ground := Ground.data }], guard := none }) (v := ?_) rfl (by kernel_rfl) (by kernel_rfl) (by kernel_rfl) (fun _ _ _ h => h) (Or.inl ⟨by rfl, ?_⟩) (by assumption) ?_
            rotate_left
            · intro w hSw; (try dsimp only at hSw); go_simp; try with_reducible rfl
            try simp only [Act.put, List.setIfInBounds_toArray, List.set_cons_zero, List.set_cons_succ]
            refine wpAnyH_take (i := 13) (oi := { dst := some 57, op := Op.move (Operand.tmp 56), type := 4, pos := "law.go:107", after := #[{ on := 12, ground := Ground.data }, { on := 4, ground := Ground.chain }], guard := none }) (v := ?_) rfl (by kernel_rfl) (by kernel_rfl) (by kernel_rfl) (fun _ _ _ h => h) (Or.inl ⟨by rfl, ?_⟩) (by assumption) ?_
            rotate_left
            · intro w hSw; (try dsimp only at hSw); go_simp; try with_reducible rfl
            try simp only [Act.put, List.setIfInBounds_toArray, List.set_cons_zero, List.set_cons_succ]
            refine wpAnyH_take (i := 14) (oi := { dst := some 58, op := Op.load 36 (Operand.tmp 12), type := 36, pos := "law.go:107", after := #[{ on := 13, ground := Ground.guard }], guard := some (13, false) }) (v := ?_) rfl (by kernel_rfl) (by kernel_rfl) (by kernel_rfl) (fun _ _ _ h => h) (Or.inl ⟨by rfl, ?_⟩) (by assumption) ?_
            rotate_left
            · intro w hSw; (try dsimp only at hSw); go_simp; try with_reducible rfl
            try simp only [Act.put, List.setIfInBounds_toArray, List.set_cons_zero, List.set_cons_succ]
            refine wpAnyH_take (i := 15) (oi := { dst := some 59, op := Op.load 38 (Operand.tmp 5), type := 38, pos := "law.go:107", after := #[{ on := 13, ground := Ground.guard }], guard := some (13, false) }) (v := ?_) rfl (by kernel_rfl) (by kernel_rfl) (by kernel_rfl) (fun _ _ _ h => h) (Or.inl ⟨by rfl, ?_⟩) (by assumption) ?_
            rotate_left
            · intro w hSw; (try dsimp only at hSw); go_simp; try with_reducible rfl
            try simp only [Act.put, List.setIfInBounds_toArray, List.set_cons_zero, List.set_cons_succ]
            refine wpAnyH_take (i := 16) (oi := { dst := some 60, op := Op.load 3 (Operand.tmp 10), type := 3, pos := "law.go:107", after := #[{ on := 13, ground := Ground.guard }], guard := some (13, false) }) (v := ?_) rfl (by kernel_rfl) (by kernel_rfl) (by kernel_rfl) (fun _ _ _ h => h) (Or.inl ⟨by rfl, ?_⟩) (by assumption) ?_
            rotate_left
            · intro w hSw; (try dsimp only at hSw); go_simp; try with_reducible rfl
            try simp only [Act.put, List.setIfInBounds_toArray, List.set_cons_zero, List.set_cons_succ]
            refine wpAnyH_take (i := 17) (oi := { dst := some 61, op := Op.indexAddr 38 (Operand.tmp 59) (Operand.tmp 60), type := 0, pos := "law.go:107", after := #[{ on := 15, ground := Ground.data }, { on := 16, ground := Ground.data }, { on := 13, ground := Ground.guard }], guard := some (13, false) }) (v := ?_) rfl (by kernel_rfl) (by kernel_rfl) (by kernel_rfl) (fun _ _ _ h => h) (Or.inl ⟨by rfl, ?_⟩) (by assumption) ?_
            rotate_left
            · intro w hSw; (try dsimp only at hSw); go_simp; try with_reducible rfl
            try simp only [Act.put, List.setIfInBounds_toArray, List.set_cons_zero, List.set_cons_succ]
            refine wpAnyH_take (i := 18) (oi := { dst := some 62, op := Op.fieldAddr 45 (Operand.tmp 61) 1, type := 0, pos := "law.go:107", after := #[{ on := 17, ground := Ground.data }, { on := 13, ground := Ground.guard }], guard := some (13, false) }) (v := ?_) rfl (by kernel_rfl) (by kernel_rfl) (by kernel_rfl) (fun _ _ _ h => h) (Or.inl ⟨by rfl, ?_⟩) (by assumption) ?_
            rotate_left
            · intro w hSw; (try dsimp only at hSw); go_simp; try with_reducible rfl
            try simp only [Act.put, List.setIfInBounds_toArray, List.set_cons_zero, List.set_cons_succ]
            refine wpAnyH_take (i := 19) (oi := { dst := some 63, op := Op.load 36 (Operand.tmp 62), type := 36, pos := "law.go:107", after := #[{ on := 18, ground := Ground.data }, { on := 13, ground := Ground.guard }], guard := some (13, false) }) (v := ?_) rfl (by kernel_rfl) (by kernel_rfl) (by kernel_rfl) (fun _ _ _ h => h) (Or.inl ⟨by rfl, ?_⟩) (by assumption) ?_
            rotate_left
            · intro w hSw; (try dsimp only at hSw); go_simp; try with_reducible rfl
            try simp only [Act.put, List.setIfInBounds_toArray, List.set_cons_zero, List.set_cons_succ]
            refine wpAnyH_ready (rs := [20]) (by kernel_rfl) (by simp) ?_
            refine AllReadyH.cons (o := { dst := some 64, op := Op.call { callee := Callee.value (Operand.func 24), args := #[Operand.tmp 58, Operand.tmp 63], argTypes := #[36, 36] }, type := 4, pos := "law.go:107", after := #[{ on := 14, ground := Ground.data }, { on := 19, ground := Ground.data }, { on := 13, ground := Ground.chain }, { on := 13, ground := Ground.guard }], guard := some (13, false) }) rfl (fun K hK => ?_) ?_
            · go_simp
              (go_at_call 24; refine HC.out.mono ?_; rintro e w5 ⟨rfl, hQ5⟩)
              refine hK.out _ _ (by have hb := hQ5.out.2.2; exact ⟨belP hb n0, belP hb w0, belP hb y0, belP hb y1, belP hb y2, belP hb e0, belP hb e1, belP hb e2, belP hb e3⟩) (fun hHeld => ?_)
              clear hK K
              try simp only [Act.put, List.setIfInBounds_toArray, List.set_cons_zero, List.set_cons_succ]
              refine wpAnyH_take (i := 21) (oi := { dst := some 65, op := Op.unOp UnOp.not 4 (Operand.tmp 64), type := 4, pos := "law.go:107", after := #[{ on := 20, ground := Ground.data }, { on := 13, ground := Ground.guard }], guard := some (13, false) }) (v := ?_) rfl (by kernel_rfl) (by kernel_rfl) (by kernel_rfl) (fun _ _ _ h => h) (Or.inl ⟨by rfl, ?_⟩) (by assumption) ?_
              rotate_left
              · intro w hSw; (try dsimp only at hSw); go_simp; try with_reducible rfl
              try simp only [Act.put, List.setIfInBounds_toArray, List.set_cons_zero, List.set_cons_succ]
              refine wpAnyH_take (i := 22) (oi := { dst := some 66, op := Op.pick (Operand.tmp 57) (Operand.const (Value.bool true)) (Operand.tmp 65), type := 4, pos := "law.go:107", after := #[{ on := 13, ground := Ground.data }, { on := 21, ground := Ground.data }], guard := none }) (v := ?_) rfl (by kernel_rfl) (by kernel_rfl) (by kernel_rfl) (fun _ _ _ h => h) (Or.inl ⟨by rfl, ?_⟩) (by assumption) ?_
              rotate_left
              · intro w hSw; (try dsimp only at hSw); go_simp; try with_reducible rfl
              try simp only [Act.put, List.setIfInBounds_toArray, List.set_cons_zero, List.set_cons_succ]
              refine wpAnyH_done (by kernel_rfl) ?_ _
              dsimp only [OnlyN]
              obtain ⟨HR5, HS5, _⟩ := hQ5.out
              obtain ⟨hPT5, hT5, _⟩ := HB1.out w5 HR5.bl
              obtain ⟨_, v5, _, _⟩ := hPT5.p3.cells
              have n5 := HR5.cell.cell 0
              have f5 := HR5.cell.frozen 0
              have t5 := hT5.cell 0
              simp at n5 t5
              have H5 := Lib.hid HR5
              have HSI := Lib.hid HS5
              clear hHeld HR5 HS5 hPT5 hT5 n0 t0 w0 y0 y1 y2 e0 e1 e2 e3 v0 hdN hdI hltI
              gi_wp2_with fail
              have H4 : (pre ++ [p]).length = pre.length + 1 := by simp
              exact ⟨(HSI.out.setCell (by have := HS7.out; show gT1 + 1 < V1.heap.size; omega) _), by rw [H4]; exact H5.out.next, by omega, fun h => by cases h⟩
            exact AllReadyH.nil
          case rest1 =>
            rintro D1 pre U2 hD hj hdef
            obtain ⟨hPT, hT2, hbk⟩ := HB1.out _ hj.bl
            obtain ⟨⟨x0, x1, x2⟩, y0, z0, z1⟩ := hPT.p3.cells
            have w0 := hPT.ws.bx.cell 0
            have zT := hT2.cell 0
            have zN := hj.cell.cell 0
            simp at zT zN w0
            have hsz : gT1 + 1 < U2.heap.size := hj.cell.lt
            have HS2 := Lib.hid hPT
            have hlt1 : D1 < U2.heap.size := (Array.getElem?_eq_some_iff.1 hdef).1
            have hge1 : U1.heap.size ≤ D1 := by have := HS7.out; have := HG1.out; omega
            have hm0 := (hbk.block D0 HE0.out.2).trans HE0.out.1
            clear HE0
            have HE0 := Lib.hid (And.intro hm0 (Array.getElem?_eq_some_iff.1 hm0).1)
            have HE1 := Lib.hid (And.intro hdef hlt1)
            clear hm0
            have HL1 := Lib.hid (And.intro hge1 hlt1)
            clear hj hPT hT2 hdef hD HS7 HB1 hI0 hlt1 hge1 hbk HG1 hSq hSn
            rw [show endN false (wantOf T).length many = ((wantOf T).length : Int) from rfl] at zN
            have hNN : (((wantOf T).length : Int) != ((wantOf T).length : Int)) = false := by simp
            go_upto_region 25 with fail
            clear hNN zN w0
            go_wp2_with fail
            have hnd : [D1, D0].Nodup := by
              have a0 := HL0.out
              have a1 := HL1.out
              simp
              omega
            have hgeD : ∀ D ∈ [D1, D0], w.heap.size ≤ D := by
              have a0 := HL0.out
              have a1 := HL1.out
              have a4 := HLW.out
              intro D hD
              simp at hD
              omega
            have HND := Lib.hid hnd
            have HGE := Lib.hid hgeD
            clear hnd hgeD HL0 HL1
            rw [rounds_succ]
            go_wp2_with (go_at_call 20; refine (works_ok _).mono ?_; rintro e w9 ⟨rfl, hb9⟩; have hb9' := ((Below.refl _ U2).alloc (Nat.le_refl _) _).trans (hb9.mono (by simp)); have hp10 := HS2.out.p3.below hb9'; obtain ⟨⟨x0, x1, x2⟩, y0, z0, z1⟩ := hp10.cells)
            have hdE : ∀ D ∈ [D1, D0], (w9.setCell ⟨w.heap.size + 1 + 1, 0, none⟩ (.bool true)).heap[D]? = some (Obj.deferred (some [])) := by
              have key : ∀ (D : Nat), U2.heap[D]? = some (Obj.deferred (some [])) → (w9.setCell ⟨w.heap.size + 1 + 1, 0, none⟩ (.bool true)).heap[D]? = some (Obj.deferred (some [])) := fun D hD => by
                have h9 := (hb9'.block D (Array.getElem?_eq_some_iff.1 hD).1).trans hD
                exact (Below.heap_setCell _ _ _ _ (fun e => by have h4 := hp10.b2; unfold Blk at h4; simp only at e; rw [← e, h9] at h4; cases h4)).trans h9
              intro D hD
              simp at hD
              rcases hD with rfl | rfl
              · exact key _ HE1.out.1
              · exact key _ HE0.out.1
            have h4E := hp10.b2.set 0 (.bool true)
            refine leaves_marks [D1, D0] _ HND.out hdE (fun w' hm => ?_)
            have h4' := (hm.blk hdE h4E).cell 0
            simp at h4'
            exact ⟨.bool true, by simp [results, Try.results4, go_sem, h4'], rfl, hm.below hp10.fin.2.out HGE.out⟩
end Go.Proofs.Ytmfcecfcfihgaaa
