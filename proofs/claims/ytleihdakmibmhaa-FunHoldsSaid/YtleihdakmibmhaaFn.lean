/- rising: the nodes as they are done. -/
import Derived.Test.YtleihdakmibmhaaFm
import Derived.Test.YtleihdakmibmhaaRn
import Derived.Stop.RegionWithIn
import Derived.Shelf.AbstractIn
import Derived.LoopIn
import Derived.Test.YtleihdakmibmhaaFi
namespace Go.Proofs.Ytleihdakmibmhaa
open Go.RowKit Go.Shelf
attribute [local go_sem] Oper.semAt_some store_nilFunc6 store_func6

/-! ### The order -/
def doneF (F : Fd) : Nat → Nat → List Nat
  | 0, _ => []
  | fuel + 1, i => match F.ns[i]? with
    | none => []
    | some x => (x.l.map fun c => doneF F fuel c.toNat).flatten ++ [i]
def kidsF (F : Fd) (fuel : Nat) (l : List Int) : List Nat := (l.map fun c => doneF F fuel c.toNat).flatten
theorem doneF_succ {F : Fd} {i : Nat} {x : Nd} (hx : F.ns[i]? = some x) (fuel : Nat) : doneF F (fuel + 1) i = kidsF F fuel x.l ++ [i] := by
  rw [doneF, hx]
  rfl
theorem kidsF_take {F : Fd} {fuel j : Nat} {l : List Int} {c : Int} (hc : l[j]? = some c) :
    kidsF F fuel (l.take (j + 1)) = kidsF F fuel (l.take j) ++ doneF F fuel c.toNat ∧ kidsF F fuel l = kidsF F fuel (l.take j) ++ (doneF F fuel c.toNat ++ kidsF F fuel (l.drop (j + 1))) := by
  have h1 : kidsF F fuel (l.take (j + 1)) = kidsF F fuel (l.take j) ++ doneF F fuel c.toNat := by
    rw [take_succ6 hc]; simp [kidsF]
  refine ⟨h1, ?_⟩
  have h2 : kidsF F fuel l = kidsF F fuel (l.take (j + 1)) ++ kidsF F fuel (l.drop (j + 1)) := by
    conv => lhs; rw [← List.take_append_drop (j + 1) l]
    simp only [kidsF, List.map_append, List.flatten_append]
  rw [h2, h1, List.append_assoc]
structure TreeF (F : Fd) : Prop where
  one : 1 ≤ F.ns.length
  few : F.ns.length ≤ 200
  kids : ∀ (i : Nat) (x : Nd), F.ns[i]? = some x → x.l.length ≤ 16 ∧ ∀ c ∈ x.l, (i : Int) < c ∧ c < F.ns.length

/-! ### visit -/
/-- What rising yields: a number, and the node. -/
def encR (F : Fd) (_ : World) (_ : Nat) (i : Nat) (xa : Array Value) : Prop :=
  ∃ x S c, F.ns[i]? = some x ∧ xa = #[.int .i64 (i : Int), .agg #[.int .i64 x.op, .int .i64 x.n, .slice S x.l.length c]]
/-- The iterator's own cells: yield, visit. -/
structure RS (W : World) (pb yb vb l : Nat) : Prop where
  y : Blk W yb 92 #[.func (.yield l) #[] #[]]
  v : Blk W vb 62 #[.func (.func 59) #[] #[.pointer (some ⟨pb, 0, none⟩), .pointer (some ⟨vb, 0, none⟩), .pointer (some ⟨yb, 0, none⟩)]]
theorem RS.since {W W' : World} {pb yb vb l B : Nat} (h : RS W pb yb vb l) (hs : Since B W W') (hy : B ≤ yb) (hv : B ≤ vb) : RS W' pb yb vb l :=
  ⟨h.y.keep (hs.same _ hy h.y.lt), h.v.keep (hs.same _ hv h.v.lt)⟩
/-- What the iterator reads: the function's blocks, and the box that holds it. -/
structure SnapR (w0 : World) (lo hi pb : Nat) (cs : Array Value) (W : World) : Prop where
  kept : Kept lo hi w0 W
  box : Blk W pb 24 cs
/-- What a visit goes by. -/
structure Visits6 (F : Fd) (w0 : World) (lo hi pb : Nat) (cs : Array Value) (xs : List Nat) (B yb vb l : Nat) (J Jx : List Nat → World → Prop) : Prop where
  hJ : OwnB B J
  hS : ∀ pre W, J pre W → SnapR w0 lo hi pb cs W
  hY : ∀ pre x rest W1 xa, xs = pre ++ x :: rest → J pre W1 → encR F W1 pre.length x xa → YieldAt Fence.wide 4 Try.prog l xa W1 fun e W' =>
      (e = .returned (.bool true) ∧ J (pre ++ [x]) W' ∧ Since B W1 W') ∨ (e = .returned (.bool false) ∧ Jx (pre ++ [x]) W' ∧ Since B W1 W')
  y : B ≤ yb
  v : B ≤ vb
/-- How a visit ends. -/
def VP6 (xs : List Nat) (B pb yb vb l : Nat) (J Jx : List Nat → World → Prop) (W : World) (pre' : List Nat) (e : Ending) (W' : World) : Prop :=
  (e = .returned (.bool true) ∧ J pre' W' ∧ RS W' pb yb vb l ∧ Since B W W') ∨ (e = .returned (.bool false) ∧ ∃ p, p <+: xs ∧ Jx p W')
/-- What a visit keeps, behind j of the nodes beneath. -/
structure VI6 (W : World) (B pb yb vb l : Nat) (J : List Nat → World → Prop) (pre' : List Nat) (wr : World) : Prop where
  j : J pre' wr
  rs : RS wr pb yb vb l
  k : Since B W wr

set_option maxRecDepth 100000 in
set_option maxHeartbeats 3200000 in
theorem visit6_ok {F : Fd} {w0 : World} {lo hi pb : Nat} {s : Value} {xs : List Nat} {B yb vb l : Nat} {J Jx : List Nat → World → Prop} (hT : TreeF F) (hF : FunI w0 lo hi (.agg #[.int .i64 F.p, s]) F) (hV : Visits6 F w0 lo hi pb #[.int .i64 F.p, s] xs B yb vb l J Jx) :
    ∀ (fuel i : Nat) (pre rest : List Nat) (W : World), F.ns.length ≤ i + fuel → i < F.ns.length → xs = pre ++ (doneF F fuel i ++ rest) → J pre W → RS W pb yb vb l →
      Calls Try.prog 59 #[.int .i64 (i : Int), .pointer (some ⟨pb, 0, none⟩), .pointer (some ⟨vb, 0, none⟩), .pointer (some ⟨yb, 0, none⟩)] W (VP6 xs B pb yb vb l J Jx W (pre ++ doneF F fuel i)) := by
  intro fuel
  induction fuel with
  | zero => intro i pre rest W h1 h2; omega
  | succ fuel ih =>
    intro i pre rest W hfu hi hxs hJ0 hrs
    obtain ⟨x, hx⟩ : ∃ x, F.ns[i]? = some x := ⟨_, List.getElem?_eq_getElem hi⟩
    rw [doneF_succ hx] at hxs ⊢
    obtain ⟨A, c, hE⟩ := hF.form
    simp only [Value.agg.injEq, Array.mk.injEq, List.cons.injEq, and_true, true_and] at hE
    subst hE
    obtain ⟨_, hE, _, hN⟩ := hF
    simp only [Value.agg.injEq, Array.mk.injEq, List.cons.injEq, and_true, true_and] at hE
    subst hE
    have hsn := hV.hS _ _ hJ0
    have z1 := hsn.box.cell 1
    simp at z1
    have lz := hsn.box.lt
    obtain ⟨b, o, sx, rfl, hlb, hbh, c0, c1, c2, hsx, _, _⟩ := hN.at_ hx
    obtain ⟨X, cx, rfl, hx1, hx2⟩ := hsx.form
    have q2 := (cell_same (p := ⟨b, o + i * 3 + 2, none⟩) (hsn.kept b hlb hbh)).trans c2
    have lb := lt_of_cell q2
    obtain ⟨_, c', e', hn1, hn2, _⟩ := id hN
    simp only [Value.slice.injEq, true_and] at e'
    obtain ⟨-, rfl⟩ := e'
    unfold maxLen at hn2 hx2
    have hiI0 : (0 : Int) ≤ (i : Int) := by omega
    have hiI1 : (i : Int) < (F.ns.length : Int) := by omega
    have hkid := hT.kids i x hx
    have hk16 := hkid.1
    have HX := Lib.hid hx
    have HXS := Lib.hid hxs
    have HN := Lib.hid hN
    have HIH := Lib.hid ih
    have HV := Lib.hid hV
    have HT := Lib.hid hkid
    have HJ := Lib.hid hJ0
    have HRS := Lib.hid hrs
    have HI := Lib.hid hsx
    clear hxs hx hN ih hV hkid hJ0 hrs hsx hsn c0 c1 c2 hT
    go_enter Try.func59, Try.ntmps59
    refine (wpIn_wide (n := 5)).1 ?_
    gi_wp2
    clear z1 q2 lb lz
    gi_loopw [15] (fun p wr => ∃ j : Nat, j ≤ x.l.length ∧ p = .int .i64 (j : Int) ∧ Hid (VI6 W B pb yb vb l J (pre ++ kidsF F fuel (x.l.take j)) wr)) (fun p _ => x.l.length - (intOf p).toNat)
    case atStart => exact ⟨0, Nat.zero_le _, rfl, Lib.hid ⟨by simpa [kidsF] using HJ.out, HRS.out, Since.refl _ _⟩⟩
    case round =>
      obtain ⟨j, hj, rfl, hR⟩ := hrel
      obtain ⟨hJr, hrs, hsi⟩ := hR.out
      have hsn := HV.out.hS _ _ hJr
      have hj0 : (0 : Int) ≤ (j : Int) := by omega
      by_cases hlt : j < x.l.length
      · have hltI : (j : Int) < (x.l.length : Int) := by omega
        obtain ⟨ch, hch⟩ : ∃ ch, x.l[j]? = some ch := ⟨_, List.getElem?_eq_getElem hlt⟩
        obtain ⟨bl, ol, rfl, _, _, d0, _⟩ := (HI.out.keep hsn.kept).at_ hch
        have ld := lt_of_cell d0
        have hcb := HT.out.2 ch (List.mem_of_getElem? hch)
        obtain ⟨cn, rfl⟩ : ∃ cn : Nat, ch = (cn : Int) := ⟨ch.toNat, by omega⟩
        obtain ⟨p1, p2⟩ := kidsF_take (F := F) (fuel := fuel) hch
        rw [Int.toNat_natCast] at p1 p2
        have v0 := hrs.v.cell 0
        simp at v0
        have lv := hrs.v.lt
        have hcall := HIH.out cn (pre ++ kidsF F fuel (x.l.take j)) (kidsF F fuel (x.l.drop (j + 1)) ++ ([i] ++ rest)) wr (by omega) (by omega)
          (by rw [HXS.out, p2]; simp only [List.append_assoc]) hJr hrs
        have hcall := callsIn_wide (n := 4) |>.2 hcall
        have hf92 : Fence.wide.fn 59 := trivial
        have HC := Lib.hid hcall
        have HP := Lib.hid p1
        have HSI := Lib.hid hsi
        clear hcall p1 p2 hR hJr hrs hsi hsn hch hcb
        gi_wp2_with (gi_at_call 59; refine HC.out.mono ?_; rintro e w' (⟨rfl, hJ6, hrs6, hk6⟩ | ⟨rfl, p, hp, hx6⟩))
        · go_roundw
          case rel => exact ⟨j + 1, by omega, by go_num, Lib.hid ⟨by rw [HP.out, ← List.append_assoc]; exact hJ6, hrs6, HSI.out.trans hk6⟩⟩
          case measure => simp [intOf]; omega
        · refine bodyPost_ret (v := .bool false) (by simp [results, Try.results59, go_sem]) rfl ?_
          exact .inr ⟨rfl, p, hp, hx6⟩
      · have hltI : ¬ (j : Int) < (x.l.length : Int) := by omega
        obtain rfl : j = x.l.length := by omega
        rw [List.take_length] at hJr
        have z1 := hsn.box.cell 1
        simp at z1
        have lz := hsn.box.lt
        obtain ⟨b', o', s', e', _, _, c0, c1, c2, hsx', _, _⟩ := HN.out.at_ HX.out
        simp only [Option.some.injEq, Addr.mk.injEq, and_true] at e'
        obtain ⟨rfl, rfl⟩ := e'
        have y0 := hrs.y.cell 0
        simp at y0
        have ly := hrs.y.lt
        have q0 := (cell_same (p := ⟨b, o + i * 3, none⟩) (hsn.kept b hlb hbh)).trans c0
        have q1 := (cell_same (p := ⟨b, o + i * 3 + 1, none⟩) (hsn.kept b hlb hbh)).trans c1
        have q2 := (cell_same (p := ⟨b, o + i * 3 + 2, none⟩) (hsn.kept b hlb hbh)).trans c2
        have lb := lt_of_cell q2
        obtain ⟨S', cS', rfl, _, _⟩ := hsx'.form
        obtain ⟨fn, tmps, assign, body, hy, hRR⟩ := HV.out.hY (pre ++ kidsF F fuel x.l) i rest wr.drew _ (by rw [HXS.out]; simp) (HV.out.hJ _ _ _ hJr (Keep.refl _ _).drew) ⟨x, S', cS', HX.out, rfl⟩
        have HR := Lib.hid (hRR.mono (R' := fun e W' => ∃ bb, e = .returned (.bool bb) ∧ Hid (VP6 xs B pb yb vb l J Jx W (pre ++ (kidsF F fuel x.l ++ [i])) (.returned (.bool bb)) W')) (fun e W' q => by
          rcases q with ⟨rfl, h1, h2⟩ | ⟨rfl, h1, h2⟩
          · exact ⟨true, rfl, Lib.hid (.inl ⟨rfl, by rw [← List.append_assoc]; exact h1, (hrs.since ((Since.refl _ wr).drew) HV.out.y HV.out.v).since h2 HV.out.y HV.out.v, (hsi.drew).trans h2⟩)⟩
          · exact ⟨false, rfl, Lib.hid (.inr ⟨rfl, _, ⟨rest, by rw [HXS.out]; simp⟩, h1⟩)⟩))
        have HSI := Lib.hid hsi
        have HRS2 := Lib.hid hrs
        clear hRR hsi hrs hJr hsn c0 c1 c2 hR
        gi_wp2_with fail
        gi_region_with (refine HR.out.mono ?_; rintro e W3 ⟨bb, rfl, hB⟩)
        all_goals
          gi_wp2
          go_ret
          exact hB.out

set_option maxRecDepth 100000 in
set_option maxHeartbeats 1600000 in
theorem rising_ok (p : Int) (s : Value) (hs : ∃ A n c, s = .slice A n c) (w : World) : Calls Try.prog 39 #[.agg #[.int .i64 p, s]] w fun e w' =>
    e = .returned (.func (.func 58) #[] #[.pointer (some ⟨w.heap.size, 0, none⟩)]) ∧ w.alloc (.cells #[.int .i64 p, s] 24) = w' := by
  obtain ⟨A, n, c, rfl⟩ := hs
  have hmf : ∀ (fn : Fn) (first cap : Array Value) (w : World), (Instr.makeFunc fn first cap).run Try.prog w = .ok (.func fn first cap) w := fun _ _ _ _ => rfl
  go_enter Try.func39, Try.ntmps39
  go_wp2
  go_ret
  exact ⟨rfl, rfl⟩

set_option maxRecDepth 100000 in
set_option maxHeartbeats 3200000 in
theorem rising1_seqs {F : Fd} (hT : TreeF F) (w0 : World) (lo hi pb : Nat) (s : Value) (hF : FunI w0 lo hi (.agg #[.int .i64 F.p, s]) F) :
    SeqsN Try.prog 58 #[.pointer (some ⟨pb, 0, none⟩)] (encR F) (doneF F F.ns.length 0) (fun _ => SnapR w0 lo hi pb #[.int .i64 F.p, s]) := by
  intro n l J Jx Jp W hJp hJ hJx hS hY h0
  refine callsIn_wide.2 ?_
  have hmf : ∀ (fn : Fn) (first cap : Array Value) (w : World), (Instr.makeFunc fn first cap).run Try.prog w = .ok (.func fn first cap) w := fun _ _ _ _ => rfl
  have hV : Visits6 F w0 lo hi pb #[.int .i64 F.p, s] (doneF F F.ns.length 0) W.heap.size W.heap.size (W.heap.size + 1) l J Jx :=
    ⟨hJ, hS, fun pre x rest W1 xa h1 h2 h3 => by
      obtain ⟨fn, tmps, assign, body, hy, hR⟩ := yield_depth 4 (hY pre x rest W1 xa h1 h2 h3)
      exact ⟨fn, tmps, assign, body, hy, hR.mono fun e W' q => by
        rcases q with q | q | ⟨ch, _, q⟩
        · exact .inl q
        · exact .inr q
        · exact (hJp _ _ q).elim⟩, Nat.le_refl _, by omega⟩
  obtain ⟨W3, hW3⟩ : ∃ W3, (W.alloc (.cells #[.func (.yield l) #[] #[]] 92)).alloc (.cells #[.func (.func 59) #[] #[.pointer (some ⟨pb, 0, none⟩), .pointer (some ⟨W.heap.size + 1, 0, none⟩), .pointer (some ⟨W.heap.size, 0, none⟩)]] 62) = W3 := ⟨_, rfl⟩
  have hrs : RS W3 pb W.heap.size (W.heap.size + 1) l := by
    rw [← hW3]
    exact ⟨(Blk.new W _ _).alloc _, blkN (by simp) _ _⟩
  have hJ3 : J [] W3 := by rw [← hW3]; exact hJ _ _ _ h0 (((Keep.refl _ W).alloc _).alloc _)
  have hcall := visit6_ok hT hF hV F.ns.length 0 [] [] W3 (by omega) hT.one (by simp) hJ3 hrs
  rw [← hW3] at hcall
  simp only [List.nil_append] at hcall
  have HC := Lib.hid hcall
  clear hV hrs hJ3 hY h0 hW3 hT hF hcall
  show Calls Try.prog 58 #[.func (.yield l) #[] #[], .pointer (some ⟨pb, 0, none⟩)] W _
  go_enter Try.func58, Try.ntmps58
  go_wp2_with (go_at_call 59; refine HC.out.mono ?_; rintro e w' (⟨rfl, hJ6, hrs6, hk6⟩ | ⟨rfl, p, hp, hx6⟩))
  · go_end0
    exact .inl ⟨⟨_, rfl⟩, .inl hJ6⟩
  · go_end0
    exact .inl ⟨⟨_, rfl⟩, .inr ⟨p, hp, hx6⟩⟩
end Go.Proofs.Ytleihdakmibmhaa
