/- works: its boxes, and its calls. -/
import Derived.Test.YtmfcecfcfihgaaaNd
import Derived.Deep.RegionWith
namespace Go.Proofs.Ytmfcecfcfihgaaa
open Go.RowKit Go.Shelf
attribute [local go_sem] Oper.semAt_some

/-- A box that holds a value, which lies in memory. -/
def BoxV (W : World) (b : Nat) (T : V) (S : Option Addr) (c : Nat) : Prop :=
  Cells3 W b (.int .i64 T.k) (.int .i64 T.n) (.slice S T.l.length c) ∧ In W 0 W.heap.size (.agg #[.int .i64 T.k, .int .i64 T.n, .slice S T.l.length c]) T
theorem In.grow {W W' : World} {v : Value} {T : V} (h : In W 0 W.heap.size v T) (hb : Below W.heap.size W W') : In W' 0 W'.heap.size v T := (h.after hb).mono (Nat.le_refl _) hb.size
theorem BoxV.below {W W' : World} {b : Nat} {T : V} {S : Option Addr} {c : Nat} (h : BoxV W b T S c) (hb : Below W.heap.size W W') : BoxV W' b T S c := ⟨h.1.below hb, h.2.grow hb⟩
theorem BoxV.new {W : World} {T : V} {S : Option Addr} {c : Nat} (h : In W 0 W.heap.size (.agg #[.int .i64 T.k, .int .i64 T.n, .slice S T.l.length c]) T) :
    BoxV (W.alloc (.cells #[.int .i64 T.k, .int .i64 T.n, .slice S T.l.length c] 36)) W.heap.size T S c :=
  ⟨(Blk.new W _ _).cells3, h.grow ((Below.refl _ W).alloc (Nat.le_refl _) _)⟩

abbrev Box := Nat × V × Option Addr × Nat
/-- The boxes of works. -/
def BoxesV (W : World) : List Box → Prop
  | [] => True
  | (b, T, S, c) :: r => BoxV W b T S c ∧ BoxesV W r
theorem BoxesV.below {W W' : World} (hb : Below W.heap.size W W') : ∀ {L : List Box}, BoxesV W L → BoxesV W' L
  | [], _ => trivial
  | (_, _, _, _) :: _, h => ⟨h.1.below hb, BoxesV.below hb h.2⟩
def St (w W : World) (L : List Box) : Prop := Below w.heap.size w W ∧ BoxesV W L
theorem St.below {w W W' : World} {L : List Box} (h : St w W L) (hb : Below W.heap.size W W') : St w W' L := ⟨h.1.trans (hb.mono h.1.size), BoxesV.below hb h.2⟩
theorem St.alloc {w W : World} {L : List Box} (h : St w W L) (o : Obj) : St w (W.alloc o) L := h.below ((Below.refl _ W).alloc (Nat.le_refl _) o)
theorem St.drew {w W : World} {L : List Box} (h : St w W L) : St w W.drew L := h.below (Below.refl _ W).drew
theorem St.push {w W : World} {L : List Box} {T : V} {S : Option Addr} {c : Nat} (h : St w W L) (hi : In W 0 W.heap.size (.agg #[.int .i64 T.k, .int .i64 T.n, .slice S T.l.length c]) T) :
    St w (W.alloc (.cells #[.int .i64 T.k, .int .i64 T.n, .slice S T.l.length c] 36)) ((W.heap.size, T, S, c) :: L) := ⟨(h.alloc _).1, BoxV.new hi, (h.alloc _).2⟩

theorem BoxesV.head {W : World} {b : Nat} {T : V} {S : Option Addr} {c : Nat} {L : List Box} (h : BoxesV W ((b, T, S, c) :: L)) : BoxV W b T S c := h.1
theorem BoxesV.tail {W : World} {e : Box} {L : List Box} (h : BoxesV W (e :: L)) : BoxesV W L := h.2
theorem St.head {w W : World} {b : Nat} {T : V} {S : Option Addr} {c : Nat} {L : List Box} (h : St w W ((b, T, S, c) :: L)) : BoxV W b T S c := h.2.head
theorem St.tail {w W : World} {e : Box} {L : List Box} (h : St w W (e :: L)) : St w W L := ⟨h.1, h.2.tail⟩
theorem St.skip {w W : World} {d e : Box} {L : List Box} (h : St w W (d :: e :: L)) : St w W (d :: L) := ⟨h.1, h.2.1, h.2.2.2⟩
/-- Cell by cell. -/
def CellsV (W : World) : List Box → Prop
  | [] => True
  | (b, T, S, c) :: r => (W.cell? ⟨b, 0, none⟩ = some (.int .i64 T.k) ∧ W.cell? ⟨b, 1, none⟩ = some (.int .i64 T.n) ∧ W.cell? ⟨b, 2, none⟩ = some (.slice S T.l.length c)) ∧ CellsV W r
theorem BoxesV.cells {W : World} : ∀ {L : List Box}, BoxesV W L → CellsV W L
  | [], _ => trivial
  | (_, _, _, _) :: _, h => ⟨h.1.1, BoxesV.cells h.2⟩
theorem St.cells {w W : World} {L : List Box} (h : St w W L) : CellsV W L := h.2.cells

/-- A call that hands a value back, and the box that it is put into. -/
def Puts (w : World) (L : List Box) (T : V) (err : Int) (e : Ending) (w' : World) : Prop :=
  ∃ S c, e = .returned (.tuple #[.agg #[.int .i64 T.k, .int .i64 T.n, .slice S T.l.length c], .int .i64 err]) ∧ Hid (St w (w'.alloc (.cells #[.int .i64 T.k, .int .i64 T.n, .slice S T.l.length c] 36)) ((w'.heap.size, T, S, c) :: L))
theorem puts_of {w W : World} {L : List Box} {T : V} {err : Int} {f : Nat} {args : Array Value} {p : V × Int} (hp : p = (T, err)) (h : Hid (St w W L)) (hc : Calls Try.prog f args W (MadeP W p.1 p.2)) : Calls Try.prog f args W (Puts w L T err) := by
  subst hp
  refine hc.mono ?_
  rintro e w' ⟨S, c, rfl, hi, hb⟩
  exact ⟨S, c, rfl, Lib.hid ((h.out.below hb).push (hi.mono (Nat.zero_le _) (Nat.le_refl _)))⟩

section
variable {w W : World} {L : List Box}
def Gives (w : World) (L : List Box) (v : Value) (e : Ending) (w' : World) : Prop := e = .returned v ∧ Hid (St w w' L)
theorem gives_of {f : Nat} {args : Array Value} {v : Value} (h : Hid (St w W L)) (hc : Calls Try.prog f args W fun e w' => e = .returned v ∧ Below W.heap.size W w') : Calls Try.prog f args W (Gives w L v) :=
  hc.mono fun _ _ q => ⟨q.1, Lib.hid (h.out.below q.2)⟩
theorem use_Unit (h : Hid (St w W L)) : Calls Try.prog 60 #[] W (Gives w L (.agg #[.int .i64 1, .int .i64 0, .slice none 0 0])) := gives_of h (Unit_ok W)
theorem use_Never (h : Hid (St w W L)) : Calls Try.prog 62 #[] W (Gives w L (.agg #[.int .i64 8, .int .i64 0, .slice none 0 0])) := gives_of h (Never_ok W)
theorem use_Int (n : Int) (h : Hid (St w W L)) : Calls Try.prog 61 #[.int .i64 n] W (Gives w L (.agg #[.int .i64 2, .int .i64 n, .slice none 0 0])) := gives_of h (Int_ok n W)
theorem use_refInt (n : Int) (h : Hid (St w W L)) : Calls Try.prog 78 #[.int .i64 n] W (Gives w L (.agg #[.int .i64 2, .int .i64 n, .slice none 0 0])) := gives_of h (refInt_ok n W)
theorem use_num (n : Int) (h : Hid (St w W L)) : Calls Try.prog 63 #[.int .i64 n] W (Gives w L (.int .i64 n)) := (num_ok n W).mono fun e w' q => ⟨q.1, by rw [q.2]; exact h⟩
theorem num_in (W : World) (hi : Nat) (n : Int) (hn : W64 n) : In W 0 hi (.agg #[.int .i64 2, .int .i64 n, .slice none 0 0]) (numT n) := leaf_in W 0 hi 2 n w64_two hn
theorem w64_lit {n : Int} (h : -9223372036854775808 ≤ n ∧ n ≤ 9223372036854775807) : W64 n := h
theorem unit_in (W : World) (hi : Nat) : In W 0 hi (.agg #[.int .i64 1, .int .i64 0, .slice none 0 0]) unitT := leaf_in W 0 hi 1 0 (by unfold W64; omega) w64_zero
theorem never_in (W : World) (hi : Nat) : In W 0 hi (.agg #[.int .i64 8, .int .i64 0, .slice none 0 0]) (.mk 8 0 []) := leaf_in W 0 hi 8 0 (by unfold W64; omega) w64_zero
theorem use_Check5 (h : Hid (St w W L)) : Calls Try.prog 64 #[.agg #[.int .i64 2, .int .i64 5, .slice none 0 0]] W (Gives w L (.int .i64 0)) := by
  have := Check_ok W (num_in W 0 5 (by unfold W64; omega)) (Nat.zero_le _)
  rw [num_right] at this
  exact gives_of h this
theorem use_Size3 {b : Nat} {S : Option Addr} {c : Nat} (h : Hid (St w W L)) (hm : BoxV W b pairT S c) : Calls Try.prog 69 #[.agg #[.int .i64 pairT.k, .int .i64 pairT.n, .slice S pairT.l.length c]] W (Gives w L (.int .i64 3)) := by
  have := Size_ok W hm.2 (Nat.le_refl _)
  exact gives_of h this
theorem use_IsEvent8 (h : Hid (St w W L)) : Calls Try.prog 70 #[.agg #[.int .i64 8, .int .i64 0, .slice none 0 0]] W (Gives w L (.bool true)) := by
  have := IsEvent_ok W (never_in W 0) (Nat.zero_le _)
  have e : (evB (V.mk 8 0 []).k && rightB (.mk 8 0 [])) = true := by simp [rightB, V.size, V.pre, V.preL, shapeB, shapeOf, evB, V.k, V.n, V.l]
  rw [e] at this
  exact gives_of h this
theorem use_IsEvent1 (h : Hid (St w W L)) : Calls Try.prog 70 #[.agg #[.int .i64 1, .int .i64 0, .slice none 0 0]] W (Gives w L (.bool false)) := by
  have := IsEvent_ok W (unit_in W 0) (Nat.zero_le _)
  have e : (evB unitT.k && rightB unitT) = false := by simp [unitT, evB, V.k]
  rw [e] at this
  exact gives_of h this
theorem use_Pair (h : Hid (St w W L)) : Calls Try.prog 65 #[.agg #[.int .i64 2, .int .i64 1, .slice none 0 0], .agg #[.int .i64 2, .int .i64 2, .slice none 0 0]] W (Puts w L pairT 0) :=
  puts_of pair_lit h (Pair_ok W (num_in W 0 1 (by unfold W64; omega)) (num_in W 0 2 (by unfold W64; omega)) (Nat.zero_le _))
theorem use_Chan (h : Hid (St w W L)) : Calls Try.prog 66 #[.int .i64 3] W (Puts w L chanT 0) := puts_of chan_lit h (Chan_ok 3 (by unfold W64; omega) W)
theorem use_Send {b : Nat} {S : Option Addr} {c : Nat} (h : Hid (St w W L)) (hm : BoxV W b chanT S c) : Calls Try.prog 67 #[.agg #[.int .i64 chanT.k, .int .i64 chanT.n, .slice S chanT.l.length c], .agg #[.int .i64 2, .int .i64 5, .slice none 0 0]] W (Puts w L sendT 0) :=
  puts_of send_lit h (Send_ok W hm.2 (num_in W _ 5 (by unfold W64; omega)) (Nat.le_refl _))
theorem use_Choose {W1 : World} (h : Hid (St w W1 L)) : Calls Try.prog 68 #[.slice (some ⟨W1.heap.size, 0, none⟩) 1 1] (W1.alloc (.cells #[.int .i64 1, .int .i64 0, .slice none 0 0] 36)) (Puts w L zeroV 40) :=
  puts_of choose_lit (Lib.hid (h.out.alloc _)) (Choose_ok _ (Ls.one (hi := 0) (Nat.zero_le _) 36 (unit_in W1 0)) (by simp))
theorem use_Add (h : Hid (St w W L)) : Calls Try.prog 72 #[.agg #[.int .i64 2, .int .i64 9223372036854775807, .slice none 0 0], .agg #[.int .i64 2, .int .i64 1, .slice none 0 0]] W (Puts w L (numT (-9223372036854775808)) 0) :=
  puts_of add_lit h (Add_ok W (num_in W 0 _ (by unfold W64; omega)) (num_in W 0 _ (by unfold W64; omega)) (Nat.zero_le _))
theorem use_Sub (h : Hid (St w W L)) : Calls Try.prog 73 #[.agg #[.int .i64 2, .int .i64 1, .slice none 0 0], .agg #[.int .i64 2, .int .i64 2, .slice none 0 0]] W (Puts w L (numT (-1)) 0) :=
  puts_of sub_lit h (Sub_ok W (num_in W 0 _ (by unfold W64; omega)) (num_in W 0 _ (by unfold W64; omega)) (Nat.zero_le _))
theorem use_Less (h : Hid (St w W L)) : Calls Try.prog 74 #[.agg #[.int .i64 2, .int .i64 1, .slice none 0 0], .agg #[.int .i64 2, .int .i64 2, .slice none 0 0]] W (Puts w L (numT 1) 0) :=
  puts_of less_lit h (Less_ok W (num_in W 0 _ (by unfold W64; omega)) (num_in W 0 _ (by unfold W64; omega)) (Nat.zero_le _))
theorem use_Eq (h : Hid (St w W L)) : Calls Try.prog 75 #[.agg #[.int .i64 1, .int .i64 0, .slice none 0 0], .agg #[.int .i64 1, .int .i64 0, .slice none 0 0]] W (Puts w L (numT 1) 0) :=
  puts_of eq_lit h (Eq_ok W (unit_in W 0) (unit_in W 0) (Nat.zero_le _))
theorem use_AddU (h : Hid (St w W L)) : Calls Try.prog 72 #[.agg #[.int .i64 1, .int .i64 0, .slice none 0 0], .agg #[.int .i64 2, .int .i64 1, .slice none 0 0]] W (Puts w L zeroV 41) :=
  puts_of (addu_lit _) h (Add_ok W (unit_in W 0) (num_in W 0 _ (by unfold W64; omega)) (Nat.zero_le _))
theorem use_First {b : Nat} {S : Option Addr} {c : Nat} (h : Hid (St w W L)) (hm : BoxV W b pairT S c) : Calls Try.prog 76 #[.agg #[.int .i64 pairT.k, .int .i64 pairT.n, .slice S pairT.l.length c]] W (Puts w L (numT 1) 0) :=
  puts_of first_lit h (First_ok W hm.2 (Nat.le_refl _))
theorem use_Truth (h : Hid (St w W L)) : Calls Try.prog 77 #[.agg #[.int .i64 2, .int .i64 0, .slice none 0 0]] W (Gives w L (.tuple #[.bool false, .int .i64 0])) := by
  have := Truth_ok W (num_in W 0 0 w64_zero) (Nat.zero_le _)
  rw [truth_lit.1, truth_lit.2] at this
  exact gives_of h this
theorem use_isNum {b : Nat} {S : Option Addr} {c : Nat} (n : Int) (hn : W64 n) (h : Hid (St w W L)) (hm : BoxV W b (numT n) S c) :
    Calls Try.prog 71 #[.agg #[.int .i64 (numT n).k, .int .i64 (numT n).n, .slice S (numT n).l.length c], .int .i64 0, .agg #[.int .i64 2, .int .i64 n, .slice none 0 0]] W (Gives w L (.bool true)) := by
  have := is_ok 0 W hm.2 (num_in W W.heap.size n hn) (Nat.le_refl _) (by simp [numT, V.size, V.pre, V.preL]) (by simp [numT, V.size, V.pre, V.preL])
  rw [same_lit] at this
  simp only [decide_true, Bool.and_true] at this
  exact gives_of h this
theorem use_isSend {b : Nat} {S : Option Addr} {c : Nat} {W1 : World} (h : Hid (St w W1 L)) (hm : BoxV W1 b sendT S c) :
    Calls Try.prog 71 #[.agg #[.int .i64 sendT.k, .int .i64 sendT.n, .slice S sendT.l.length c], .int .i64 0, .agg #[.int .i64 5, .int .i64 0, .slice (some ⟨W1.heap.size, 0, none⟩) 2 2]]
      (W1.alloc (.cells #[.int .i64 4, .int .i64 3, .slice none 0 0, .int .i64 2, .int .i64 5, .slice none 0 0] 36)) (Gives w L (.bool true)) := by
  have hls := Ls.pair (hi := 0) (Nat.zero_le _) 36 (leaf_in W1 0 0 4 3 (by unfold W64; omega) (by unfold W64; omega)) (leaf_in W1 0 0 2 5 w64_two (by unfold W64; omega))
  have hin := In.of (k := 5) (n := 0) (by unfold W64; omega) w64_zero hls
  have := is_ok 0 _ ((hm.2.grow ((Below.refl _ W1).alloc (Nat.le_refl _) (.cells #[.int .i64 4, .int .i64 3, .slice none 0 0, .int .i64 2, .int .i64 5, .slice none 0 0] 36))).mono (Nat.le_refl _) (Nat.le_refl _)) (hin.mono (Nat.le_refl _) (by simp)) (Nat.le_refl _) (by simp [sendT, chanT, numT, V.size, V.pre, V.preL]) (by simp [V.size, V.pre, V.preL])
  rw [same_send] at this
  simp only [decide_true, Bool.and_true] at this
  exact gives_of (Lib.hid (h.out.alloc _)) this
end

/-! A box that is made ahead of what is put into it. -/
def BoxesU (W : World) (hi : Nat) : List Box → Prop
  | [] => True
  | (b, T, S, c) :: r => (b < hi ∧ Cells3 W b (.int .i64 T.k) (.int .i64 T.n) (.slice S T.l.length c) ∧ In W 0 hi (.agg #[.int .i64 T.k, .int .i64 T.n, .slice S T.l.length c]) T) ∧ BoxesU W hi r
theorem BoxesV.toU {W : World} : ∀ {L : List Box}, BoxesV W L → BoxesU W W.heap.size L
  | [], _ => trivial
  | (_, _, _, _) :: _, h => ⟨⟨lt_of_cell h.1.1.1, h.1.1, h.1.2⟩, BoxesV.toU h.2⟩
theorem BoxesU.toV {W : World} {hi : Nat} (hh : hi ≤ W.heap.size) : ∀ {L : List Box}, BoxesU W hi L → BoxesV W L
  | [], _ => trivial
  | (_, _, _, _) :: _, h => ⟨⟨h.1.2.1, h.1.2.2.mono (Nat.le_refl _) hh⟩, BoxesU.toV hh h.2⟩
theorem BoxesU.keep {W W' : World} {hi : Nat} (hk : ∀ i, i < hi → W'.heap[i]? = W.heap[i]?) : ∀ {L : List Box}, BoxesU W hi L → BoxesU W' hi L
  | [], _ => trivial
  | (b, _, _, _) :: _, h => ⟨⟨h.1.1, ⟨(cell_same (p := ⟨b, 0, none⟩) (hk b h.1.1)).trans h.1.2.1.1, (cell_same (p := ⟨b, 1, none⟩) (hk b h.1.1)).trans h.1.2.1.2.1, (cell_same (p := ⟨b, 2, none⟩) (hk b h.1.1)).trans h.1.2.1.2.2⟩, h.1.2.2.keep fun j _ hj => hk j hj⟩, BoxesU.keep hk h.2⟩
structure St2 (w W : World) (L : List Box) (b : Nat) : Prop where
  bl : Below w.heap.size w W
  bx : BoxesU W b L
  z : Blk W b 36 #[.int .i64 0, .int .i64 0, .slice none 0 0]
  ge : w.heap.size ≤ b
theorem St2.new {w W : World} {L : List Box} (h : St w W L) : St2 w (W.alloc (.cells #[.int .i64 0, .int .i64 0, .slice none 0 0] 36)) L W.heap.size :=
  ⟨(h.alloc _).1, h.2.toU.keep fun i hi => Below.heap_alloc W _ i hi, Blk.new W _ _, h.1.size⟩
theorem St2.below {w W W' : World} {L : List Box} {b : Nat} (h : St2 w W L b) (hb : Below W.heap.size W W') : St2 w W' L b :=
  ⟨h.bl.trans (hb.mono h.bl.size), h.bx.keep fun i hi => hb.block i (Nat.lt_trans hi h.z.lt), h.z.keep (hb.block _ h.z.lt), h.ge⟩
theorem St2.drew {w W : World} {L : List Box} {b : Nat} (h : St2 w W L b) : St2 w W.drew L b := h.below (Below.refl _ W).drew
theorem St2.st {w W : World} {L : List Box} {b : Nat} (h : St2 w W L b) : St w W L := ⟨h.bl, h.bx.toV (Nat.le_of_lt h.z.lt)⟩
theorem St2.put {w W : World} {L : List Box} {b g : Nat} {T : V} {S : Option Addr} {c : Nat} (h : St2 w W L b) (hi : In W g W.heap.size (.agg #[.int .i64 T.k, .int .i64 T.n, .slice S T.l.length c]) T) (hg : b < g) :
    St w (((W.setCell ⟨b, 0, none⟩ (.int .i64 T.k)).setCell ⟨b, 1, none⟩ (.int .i64 T.n)).setCell ⟨b, 2, none⟩ (.slice S T.l.length c)) ((b, T, S, c) :: L) := by
  have hk : Keep (fun j => j = b) W (((W.setCell ⟨b, 0, none⟩ (.int .i64 T.k)).setCell ⟨b, 1, none⟩ (.int .i64 T.n)).setCell ⟨b, 2, none⟩ (.slice S T.l.length c)) := keep_set3 (F := fun j => j = b) (Keep.refl _ _) (show b = b from rfl) _ _ _
  have hc := set3_cells h.z.cells3.1 h.z.cells3.2.1 h.z.cells3.2.2 (.int .i64 T.k) (.int .i64 T.n) (.slice S T.l.length c)
  have hlt := h.z.lt
  have hge := h.ge
  exact ⟨h.bl.trans (hk.below (fun k e => by subst e; exact hge) h.bl.size), ⟨hc, (hi.keep fun j h1 h2 => hk.block j h2 (by omega)).mono (Nat.zero_le _) hk.size⟩, (h.bx.keep fun i hi => hk.block i (by omega) (by omega)).toV (Nat.le_trans (Nat.le_of_lt hlt) hk.size)⟩
def Puts2 (w : World) (L : List Box) (b : Nat) (T : V) (err : Int) (e : Ending) (w' : World) : Prop :=
  ∃ S c, e = .returned (.tuple #[.agg #[.int .i64 T.k, .int .i64 T.n, .slice S T.l.length c], .int .i64 err]) ∧ (w'.cell? ⟨b, 0, none⟩ = some (.int .i64 0) ∧ w'.cell? ⟨b, 1, none⟩ = some (.int .i64 0) ∧ w'.cell? ⟨b, 2, none⟩ = some (.slice none 0 0) ∧
    w'.frozen? ⟨b, 0, none⟩ = false ∧ w'.frozen? ⟨b, 1, none⟩ = false ∧ w'.frozen? ⟨b, 2, none⟩ = false ∧ b < w'.heap.size) ∧
    Hid (St w (((w'.setCell ⟨b, 0, none⟩ (.int .i64 T.k)).setCell ⟨b, 1, none⟩ (.int .i64 T.n)).setCell ⟨b, 2, none⟩ (.slice S T.l.length c)) ((b, T, S, c) :: L))
theorem puts2_of {w W : World} {L : List Box} {T : V} {err : Int} {f b : Nat} {args : Array Value} {p : V × Int} (hp : p = (T, err)) (h : Hid (St2 w W L b)) (hc : Calls Try.prog f args W (MadeP W p.1 p.2)) : Calls Try.prog f args W (Puts2 w L b T err) := by
  subst hp
  refine hc.mono ?_
  rintro e w' ⟨S, c, rfl, hi, hb⟩
  have h2 := h.out.below hb
  exact ⟨S, c, rfl, ⟨h2.z.cells3.1, h2.z.cells3.2.1, h2.z.cells3.2.2, h2.z.frozen _, h2.z.frozen _, h2.z.frozen _, h2.z.lt⟩, Lib.hid (h2.put hi h.out.z.lt)⟩
theorem use_Int2 {w W : World} {L : List Box} {b : Nat} (n : Int) (h : Hid (St2 w W L b)) : Calls Try.prog 61 #[.int .i64 n] W fun e w' => e = .returned (.agg #[.int .i64 2, .int .i64 n, .slice none 0 0]) ∧ Hid (St2 w w' L b) :=
  (Int_ok n W).mono fun _ _ q => ⟨q.1, Lib.hid (h.out.below q.2)⟩
theorem use_Send2 {w W : World} {L : List Box} {b d : Nat} {S : Option Addr} {c : Nat} (h : Hid (St2 w W L b)) (hm : BoxV W d chanT S c) : Calls Try.prog 67 #[.agg #[.int .i64 chanT.k, .int .i64 chanT.n, .slice S chanT.l.length c], .agg #[.int .i64 2, .int .i64 5, .slice none 0 0]] W (Puts2 w L b sendT 0) :=
  puts2_of send_lit h (Send_ok W hm.2 (num_in W _ 5 (by unfold W64; omega)) (Nat.le_refl _))
end Go.Proofs.Ytmfcecfcfihgaaa
