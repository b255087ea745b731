/- The threads of the turns, one by one. -/
import Derived.Test.YtchmoalcjbolbaaH
import Derived.Test.YtchmoalcjbolbaaS
namespace Go.Proofs.Ytchmoalcjbolbaa
open Go.RowKit Go.Shelf
attribute [local go_sem] Oper.semAt_some

/-- A thread of a turn, and where the turn stands. -/
structure Ev where
  at_ : Nat
  x : Tn
  t : Int
def evAt (i : Nat) (x : Tn) (ts : List Int) : List Ev := ts.map fun t => ⟨i, x, t⟩
def evK (l : List Tn) (k : Nat) : List Ev := (List.range k).flatMap fun i => match l[i]? with
  | some x => evAt i x x.runs
  | none => []
theorem evK_succ {l : List Tn} {k : Nat} {x : Tn} (hx : l[k]? = some x) : evK l (k + 1) = evK l k ++ evAt k x x.runs := by
  unfold evK
  rw [List.range_succ, List.flatMap_append]
  simp [hx]
theorem evK_prefix (l : List Tn) {m n : Nat} (h : m ≤ n) : ∃ r, evK l n = evK l m ++ r := by
  obtain ⟨d, rfl⟩ := Nat.exists_eq_add_of_le h
  unfold evK
  rw [List.range_add, List.flatMap_append]
  exact ⟨_, rfl⟩
theorem evAt_next {i : Nat} {x : Tn} {ts : List Int} {j : Nat} {t : Int} (h : ts[j]? = some t) :
    evAt i x ts = evAt i x (ts.take j) ++ ⟨i, x, t⟩ :: evAt i x (ts.drop (j + 1)) ∧ evAt i x (ts.take (j + 1)) = evAt i x (ts.take j) ++ [⟨i, x, t⟩] := by
  obtain ⟨h1, h2⟩ := parts_at h
  refine ⟨?_, ?_⟩
  · conv => lhs; rw [h1]
    simp [evAt]
  · rw [h2]; simp [evAt]
theorem evK_mem {l : List Tn} {k : Nat} {e : Ev} (h : e ∈ evK l k) : e.at_ < k ∧ l[e.at_]? = some e.x ∧ e.t ∈ e.x.runs := by
  unfold evK at h
  obtain ⟨i, hi, he⟩ := List.mem_flatMap.1 h
  cases hx : l[i]? with
  | none => rw [hx] at he; simp at he
  | some x =>
    rw [hx] at he
    obtain ⟨t, ht, rfl⟩ := List.mem_map.1 he
    exact ⟨List.mem_range.1 hi, hx, ht⟩

/-- As far as the turns may be. -/
def goodTo (l : List Tn) : Nat := match badAt l with
  | some k => k
  | none => l.length
theorem goodTo_ge {l : List Tn} {m : Nat} (hm : m ≤ l.length) (h : AllValid (l.take m)) : m ≤ goodTo l := by
  unfold goodTo
  cases hb : badAt l with
  | none => exact hm
  | some k =>
    unfold badAt at hb
    rw [List.findIdx?_eq_some_iff_getElem] at hb
    obtain ⟨hlt, hv, _⟩ := hb
    simp only
    rcases Nat.lt_or_ge k m with hkm | hkm
    · have := h l[k] (List.mem_take_iff_getElem.2 ⟨k, by omega, rfl⟩)
      rw [this] at hv
      simp at hv
    · exact hkm
def badOf (l : List Tn) : Option (List PanicEntry) := (badAt l).map fun k => wrongAt (k : Int)

def encE (e : Ev) (xa : Array Value) : Prop :=
  ∃ B d X m c', xa = #[.agg #[.slice B e.x.runs.length d, .int .i64 e.x.took, .int .i64 (e.at_ : Int), .slice X m c'], .int .i64 e.t]
structure Snap46 (w0 : World) (B : Nat) (v : Value) (W : World) : Prop where
  box : Blk W B 33 #[v]
  bl : Below w0.heap.size w0 W

theorem Stepped.runs {w0 w : World} {bv : Nat} {at_ : Int} {x : Tn} {l : List Tn} {w' : World} (h : Stepped w0 w bv at_ x l w') :
    ∃ B d v', w'.cell? ⟨bv, 0, none⟩ = some (.slice B x.runs.length d) ∧ Hid (Blk w' bv 63 #[.slice B x.runs.length d, .int .i64 x.took, .int .i64 at_, v'] ∧ Ints w0 (.slice B x.runs.length d) x.runs ∧ Turns w0 v' l) := by
  obtain ⟨⟨B, d, v', h1, h2, h3⟩, _, _⟩ := h
  exact ⟨B, d, v', by simpa using h1.cell 0, Lib.hid ⟨h1, h2, h3⟩⟩

set_option maxRecDepth 100000 in
set_option maxHeartbeats 400000 in
theorem threads_any (A : Option Addr) (n c : Nat) (w : World) : Calls Try.prog 36 #[.slice A n c] w fun e w' =>
    e = .returned (.func (.func 46) #[] #[.pointer (some ⟨w.heap.size, 0, none⟩)]) ∧ w.alloc (.cells #[.slice A n c] 33) = w' := by
  have hmf : ∀ (fn : Fn) (first cap : Array Value) (w : World), (Instr.makeFunc fn first cap).run Try.prog w = .ok (.func fn first cap) w := fun _ _ _ _ => rfl
  go_enter Try.func36, Try.ntmps36
  go_wp2
  go_ret
  exact ⟨rfl, rfl⟩

set_option maxRecDepth 100000 in
set_option maxHeartbeats 3200000 in
theorem threads1_seqs (l : List Tn) (w0 : World) (B : Nat) (v : Value) (hl : Turns w0 v l) (hle : l.length ≤ 1000) (_hB : w0.heap.size ≤ B) : SeqsE Try.prog 46 #[.pointer (some ⟨B, 0, none⟩)] encE (evK l (goodTo l)) (badOf l) (Snap46 w0 B v) := by
  intro n lp J Jx W hJ hJx hS hY h0
  refine callsIn_wide.2 ?_
  have hs := hS _ _ h0
  obtain ⟨A, c, rfl, hc1, hc2⟩ := hl.form
  have c0 := hs.box.cell 0
  simp at c0
  show Calls Try.prog 46 #[.func (.yield lp) #[] #[], .pointer (some ⟨B, 0, none⟩)] W _
  go_enter Try.func46, Try.ntmps46
  go_wp2_with (go_at_call 32; refine (before_ok _ _ _ _).mono ?_; rintro e w1 ⟨rfl, hb1⟩)
  obtain ⟨bv, hbv⟩ : ∃ bv, w1.heap.size = bv := ⟨_, rfl⟩
  obtain ⟨w2, hw2⟩ : ∃ w2, w1.alloc (.cells #[.slice none 0 0, .int .i64 0, .int .i64 (-1), .slice A l.length c] 63) = w2 := ⟨_, rfl⟩
  have hW1 : Below W.heap.size W w2 := by rw [← hw2]; exact hb1.alloc hb1.size _
  have hWb : W.heap.size ≤ bv := by rw [← hbv]; exact hb1.size
  have hB2 : Below w0.heap.size w0 w2 := hs.bl.trans (hW1.mono hs.bl.size)
  have hview : ViewAt w0 bv l 0 w2 := ViewAt.start (by rw [← hw2, ← hbv]; exact Blk.new w1 63 _) hl hB2
  have hJ2 : J [] w2 := hJ _ _ _ h0 (Keep.of_below hW1 (fun k hk _ => hk))
  rw [hbv, hw2]
  have hbB : w0.heap.size ≤ bv := Nat.le_trans hs.bl.size hWb
  clear hbv hw2 hb1 hB2 hs h0 c0 w1
  have hleI : (l.length : Int) ≤ 1000 := by omega
  have hf33 : Fence.wide.fn 33 := trivial
  refine (wpIn_wide (n := 5)).1 ?_
  gi_loopw [8] (fun _ wr => ∃ k : Nat, ViewAt w0 bv l k wr ∧ J (evK l k) wr ∧ W.heap.size ≤ wr.heap.size) (fun _ wr => restLen wr bv)
  case atStart => exact ⟨0, hview, by simpa [evK] using hJ2, hW1.size⟩
  case round =>
    obtain ⟨k, hv, hJk, hsz⟩ := hrel
    have Hm := Lib.hid hv.rest
    obtain ⟨u, t, v, hb, ht⟩ := hv.blk
    cases hd : l.drop k with
    | nil =>
      rw [hd] at ht
      have hsn := callsIn_wide (n := 5 - 1) |>.2 (step_nil bv u t _ v wr hb (ht.kept (kept_below hv.bl (Nat.le_refl _))))
      have hE : goodTo l = k ∧ badOf l = none := by
        have h1 := hv.valid
        rw [(drop_nil hd).1] at h1
        unfold goodTo badOf
        rw [badAt_none h1]
        have := (drop_nil hd).2
        have := hv.le
        exact ⟨by simp only; omega, rfl⟩
      have HE := Lib.hid hE
      clear hE hd hb ht hv
      gi_wp2_with (gi_at_call 33; refine hsn.mono ?_; rintro e w' ⟨rfl, rfl⟩)
      go_end0
      exact .inl ⟨⟨_, rfl⟩, .inl ⟨HE.out.2, by rw [HE.out.1]; exact hJk⟩⟩
    | cons x l' =>
      rw [hd] at ht
      have hk1 : (k : Int) - 1 + 1 = (k : Int) := by omega
      have hsc0 := step_cons bv u t v _ x l' w0 wr hb ht hv.bl hbB (by have := hv.le; omega)
      rw [hk1] at hsc0
      have hsc := callsIn_wide (n := 5 - 1) |>.2 hsc0
      have HV := Lib.hid hv
      have HD := Lib.hid hd
      clear hd hb ht hv hsc0 hk1
      gi_wp2_with (gi_at_call 33; refine hsc.mono ?_; rintro e w' ⟨hst, (⟨hv, rfl⟩ | ⟨hv, rfl⟩)⟩ <;> obtain ⟨R, d, v', z0, hrun⟩ := hst.runs)
      · have hJ' : J (evK l k) w' := hJ _ _ _ hJk (hst.keep.mono (fun i e => by subst e; exact hWb))
        have hsz' : W.heap.size ≤ w'.heap.size := by rw [hst.size]; exact hsz
        obtain ⟨X, c', rfl, _, _⟩ := hrun.out.2.2.form
        obtain ⟨hb, hi, hT⟩ := hrun.out
        have HI := Lib.hid hi
        have HT := Lib.hid hT
        have hlen := hi.len
        have hm : x.runs.length ≤ maxLen := Nat.le_trans hlen.2.1 hlen.2.2
        unfold maxLen at hm
        have hgt : k + 1 ≤ goodTo l := goodTo_ge (by have := (drop_get HD.out).2; omega) (allValid_next (drop_get HD.out).1 hv HV.out.valid)
        obtain ⟨more, hmore⟩ := evK_prefix l hgt
        rw [evK_succ (drop_get HD.out).1] at hmore
        have HM := Lib.hid hmore
        have Hv := Lib.hid hv
        clear hi hT hlen hgt hmore hv hst
        gi_loopw [13] (fun p wq => ∃ j : Nat, j ≤ x.runs.length ∧ p = .int .i64 (j : Int) ∧ J (evK l k ++ evAt k x (x.runs.take j)) wq ∧ Blk wq bv 63 #[.slice R x.runs.length d, .int .i64 x.took, .int .i64 (k : Int), .slice X l'.length c'] ∧ W.heap.size ≤ wq.heap.size) (fun p _ => x.runs.length - (intOf p).toNat)
        case atStart => exact ⟨0, Nat.zero_le _, rfl, by simpa [evAt] using hJ', hb, hsz'⟩
        case round =>
          obtain ⟨j, hj, rfl, hJj, hbj, hsj⟩ := hrel
          have hj0 : (0 : Int) ≤ (j : Int) := by omega
          have hsn := hS _ _ hJj
          have y0 := hbj.cell 0
          have y1 := hbj.cell 1
          have y2 := hbj.cell 2
          have y3 := hbj.cell 3
          simp at y0 y1 y2 y3
          by_cases hlt : j < x.runs.length
          · have hltI : (j : Int) < (x.runs.length : Int) := by omega
            obtain ⟨t, ht⟩ : ∃ t, x.runs[j]? = some t := ⟨_, List.getElem?_eq_getElem hlt⟩
            obtain ⟨b, o, rfl, hbb, q0⟩ := (HI.out.kept (kept_below hsn.bl (Nat.le_refl _))).at_ ht
            obtain ⟨p1, p2⟩ := evAt_next (i := k) (x := x) ht
            have hsplit : evK l (goodTo l) = (evK l k ++ evAt k x (x.runs.take j)) ++ ⟨k, x, t⟩ :: (evAt k x (x.runs.drop (j + 1)) ++ more) := by
              rw [HM.out, p1]; simp
            obtain ⟨fn, tmps, assign, body, hy, hR⟩ := yield_depth 4 (hY _ ⟨k, x, t⟩ _ wr #[.agg #[.slice (some ⟨b, o, none⟩) x.runs.length d, .int .i64 x.took, .int .i64 (k : Int), .slice X l'.length c'], .int .i64 t] hsplit hJj ⟨_, _, _, _, _, rfl⟩)
            have HP := Lib.hid (And.intro hsplit p2)
            have HJ := Lib.hid hJj
            have HB := Lib.hid hbj
            clear hsplit p1 p2 ht hJj hbj hsn hsc
            gi_wp2
            refine hR.mono ?_
            rintro e W3 (⟨rfl, hJ3, hs3⟩ | ⟨rfl, hJx3, hs3⟩)
            · gi_wp2
              go_roundw
              case rel => exact ⟨j + 1, by omega, by go_num, by rw [HP.out.2, ← List.append_assoc]; exact hJ3, HB.out.keep (hs3.same bv hWb HB.out.lt), Nat.le_trans hsj hs3.size⟩
              case measure => simp [intOf]; omega
            · gi_wp2
              refine bodyPost_ret (results_none rfl _ _ _) rfl ?_
              exact .inl ⟨⟨_, rfl⟩, .inr ⟨_, ⟨_, by rw [List.append_assoc]; exact HP.out.1.symm⟩, hJx3⟩⟩
          · have hltI : ¬ (j : Int) < (x.runs.length : Int) := by omega
            have hJk1 : J (evK l (k + 1)) wr := by
              rw [evK_succ (drop_get HD.out).1]
              rw [List.take_of_length_le (by omega)] at hJj
              exact hJj
            have hvn : ViewAt w0 bv l (k + 1) wr := by
              refine ⟨⟨.slice R x.runs.length d, .int .i64 x.took, .slice X l'.length c', ?_, ?_⟩, hsn.bl, by have := (drop_get HD.out).2; omega, allValid_next (drop_get HD.out).1 Hv.out HV.out.valid⟩
              · have e : ((k + 1 : Nat) : Int) - 1 = (k : Int) := by omega
                rw [e]; exact hbj
              · have e : l.drop (k + 1) = l' := by
                  have := congrArg List.tail HD.out
                  simpa using this
                rw [e]; exact HT.out
            have Hn := Lib.hid hvn
            clear hbj hsn hvn hsc hJj
            gi_wp2
            exact ⟨⟨k + 1, Hn.out, hJk1, hsj⟩, by rw [Hn.out.rest, Hm.out]; have := (drop_get HD.out).2; omega⟩
      · clear hsc
        have hE : badOf l = some (wrongAt (k : Int)) ∧ goodTo l = k := by
          have := badAt_some (drop_get HD.out).1 hv HV.out.valid
          unfold badOf goodTo
          rw [this]
          exact ⟨rfl, rfl⟩
        have hJ' : J (evK l k) w' := hJ _ _ _ hJk (hst.keep.mono (fun i e => by subst e; exact hWb))
        have hfin : badOf l = some (wrongAt (k : Int)) ∧ Ending.panicked (wrongAt (k : Int)) = .panicked (wrongAt (k : Int)) ∧ J (evK l (goodTo l)) w' := ⟨hE.1, rfl, by rw [hE.2]; exact hJ'⟩
        first
          | exact ⟨rfl, .inr ⟨_, hfin⟩⟩
          | exact .inr ⟨_, hfin⟩
end Go.Proofs.Ytchmoalcjbolbaa
