/- Copy: the nodes anew, their numbers in one room. -/
import Derived.Test.YtleihdakmibmhaaFl
namespace Go.Proofs.Ytleihdakmibmhaa
open Go.RowKit Go.Shelf
attribute [local go_sem] Oper.semAt_some

def FewF (F : Fd) : Prop := F.ns.length ≤ 300 ∧ ∀ x ∈ F.ns, x.l.length ≤ 40
def flatL (ns : List Nd) : List Int := (ns.map (·.l)).flatten
theorem flatL_cons (x : Nd) (r : List Nd) : flatL (x :: r) = x.l ++ flatL r := by unfold flatL; simp
theorem flatL_append (a b : List Nd) : flatL (a ++ b) = flatL a ++ flatL b := by unfold flatL; simp
theorem take_succ6 {α : Type} {l : List α} {k : Nat} {x : α} (hx : l[k]? = some x) : l.take (k + 1) = l.take k ++ [x] := by
  obtain ⟨hlt, hge⟩ := List.getElem?_eq_some_iff.1 hx
  rw [List.take_succ_eq_append_getElem hlt, hge]
theorem flatL_succ {ns : List Nd} {k : Nat} {x : Nd} (hx : ns[k]? = some x) : flatL (ns.take (k + 1)) = flatL (ns.take k) ++ x.l := by
  rw [take_succ6 hx, flatL_append, flatL_cons]
  simp [flatL]
theorem flatL_le : ∀ {ns : List Nd}, (∀ x ∈ ns, x.l.length ≤ 40) → (flatL ns).length ≤ 40 * ns.length
  | [], _ => by simp [flatL]
  | x :: r, h => by
    rw [flatL_cons, List.length_append, List.length_cons]
    have := flatL_le (ns := r) (fun y hy => h y (by simp [hy]))
    have := h x (by simp)
    omega
theorem flatL_part {ns : List Nd} (k : Nat) : (flatL (ns.take k)).length + (flatL (ns.drop k)).length = (flatL ns).length := by
  rw [← List.length_append, ← flatL_append, List.take_append_drop]
def nodeV (g off : Nat) (x : Nd) : List Value := [.int .i64 x.op, .int .i64 x.n, sliceAt g off x.l]
def rowV (g : Nat) : Nat → List Nd → List Value
  | _, [] => []
  | off, x :: r => nodeV g off x ++ rowV g (off + x.l.length) r
theorem rowV_append (g : Nat) : ∀ (a b : List Nd) (off : Nat), rowV g off (a ++ b) = rowV g off a ++ rowV g (off + (flatL a).length) b
  | [], b, off => by simp [rowV, flatL]
  | x :: a, b, off => by
    rw [List.cons_append, rowV, rowV, rowV_append g a b, flatL_cons, List.length_append, List.append_assoc, Nat.add_assoc]
theorem rowV_len (g : Nat) : ∀ (a : List Nd) (off : Nat), (rowV g off a).length = a.length * 3
  | [], off => rfl
  | x :: a, off => by
    rw [rowV, List.length_append, rowV_len g a]
    simp [nodeV]
    omega
theorem rowV_get {g : Nat} : ∀ {ns : List Nd} {i : Nat} {x : Nd} (off : Nat), ns[i]? = some x →
    (rowV g off ns)[i * 3]? = some (.int .i64 x.op) ∧ (rowV g off ns)[i * 3 + 1]? = some (.int .i64 x.n) ∧ (rowV g off ns)[i * 3 + 2]? = some (sliceAt g (off + (flatL (ns.take i)).length) x.l)
  | [], i, x, off, h => by simp at h
  | y :: r, 0, x, off, h => by
    simp at h
    subst h
    simp [rowV, nodeV, flatL]
  | y :: r, i + 1, x, off, h => by
    have h' : r[i]? = some x := by simpa using h
    obtain ⟨h0, h1, h2⟩ := rowV_get (g := g) (off + y.l.length) h'
    rw [rowV]
    have e : ∀ j, (nodeV g off y ++ rowV g (off + y.l.length) r)[(i + 1) * 3 + j]? = (rowV g (off + y.l.length) r)[i * 3 + j]? := fun j => by
      rw [List.getElem?_append_right (by simp [nodeV]; omega)]
      simp only [nodeV, List.length_cons, List.length_nil]
      congr 1
      omega
    have e0 := e 0
    simp only [Nat.add_zero] at e0
    refine ⟨e0.trans h0, (e 1).trans h1, (e 2).trans ?_⟩
    rw [h2, List.take_succ_cons, flatL_cons, List.length_append]
    congr 2
    omega

/-- What Copy makes: the nodes in a row of their own, their numbers in one block. -/
structure CopyS (w : World) (F : Fd) (v : Value) (W : World) : Prop where
  bl : Below w.heap.size w W
  ex : ∃ gr s, v = .agg #[.int .i64 F.p, s] ∧ w.heap.size ≤ gr ∧ Blk W gr 3 (intsOf (flatL F.ns)) ∧ Row W 47 3 s F.ns.length (rowV gr 0 F.ns) ∧ ∀ j, s.ownBlock = some j → w.heap.size ≤ j
/-- Copy's boxes. -/
structure CB (w : World) (F : Fd) (A : Option Addr) (c : Nat) (v : Value) (W : World) : Prop where
  bl : Below w.heap.size w W
  fb : Blk W w.heap.size 24 #[.int .i64 F.p, .slice A F.ns.length c]
  rb : Blk W (w.heap.size + 1) 24 #[.int .i64 0, .slice none 0 0]
  cb : Blk W (w.heap.size + 2) 24 #[.int .i64 F.p, v]
theorem CB.below {w W W' : World} {F : Fd} {A : Option Addr} {c : Nat} {v : Value} (h : CB w F A c v W) (hb : Below W.heap.size W W') : CB w F A c v W' :=
  ⟨h.bl.trans (hb.mono h.bl.size), h.fb.keep (hb.block _ h.fb.lt), h.rb.keep (hb.block _ h.rb.lt), h.cb.keep (hb.block _ h.cb.lt)⟩
theorem CB.alloc {w W : World} {F : Fd} {A : Option Addr} {c : Nat} {v : Value} (h : CB w F A c v W) (o : Obj) : CB w F A c v (W.alloc o) := h.below ((Below.refl _ W).alloc (Nat.le_refl _) _)
theorem CB.keep {w W W' : World} {F : Fd} {A : Option Addr} {c : Nat} {v : Value} {P : Nat → Prop} (h : CB w F A c v W) (hk : Keep P W W') (hP : ∀ j, P j → w.heap.size + 2 < j) : CB w F A c v W' :=
  ⟨h.bl.trans ((hk.mono (G := fun j => w.heap.size ≤ j) (fun j hj => by have := hP j hj; omega)).below (fun _ hj => hj) h.bl.size), h.fb.keep (hk.block _ h.fb.lt (fun e => by have := hP _ e; omega)), h.rb.keep (hk.block _ h.rb.lt (fun e => by have := hP _ e; omega)), h.cb.keep (hk.block _ h.cb.lt (fun e => by have := hP _ e; omega))⟩
/-- Behind k nodes, of which k' have their numbers in the room. -/
structure CK (w : World) (F : Fd) (A : Option Addr) (c gr k k' : Nat) (v : Value) (B : Option Addr) (W : World) : Prop where
  cb : CB w F A c v W
  row : Row W 47 3 v k (rowV gr 0 (F.ns.take k))
  own : ∀ j, v.ownBlock = some j → w.heap.size + 2 < j
  room : ∃ cs, Blk W gr 3 cs ∧ cs.size = (flatL F.ns).length ∧ ∀ (i : Nat) (y : Int), (flatL (F.ns.take k'))[i]? = some y → cs[i]? = some (.int .i64 y)
  rm : RoomI B gr (flatL (F.ns.take k')).length ((flatL F.ns).length - (flatL (F.ns.take k')).length)
  grl : w.heap.size + 2 < gr
theorem nodeInfo : (Try.prog.info? 47).map (fun i => (i.zero, i.size, i.bytes)) = some (some (.agg #[.int .i64 0, .int .i64 0, .slice none 0 0]), 3, 40) := by kernel_rfl
theorem putI_get {cs : Array Value} {off : Nat} {l pre : List Int} (hoff : off = pre.length) (hsz : off + l.length ≤ cs.size) (h : ∀ (i : Nat) (y : Int), pre[i]? = some y → cs[i]? = some (.int .i64 y)) :
    (putI cs off l).size = cs.size ∧ ∀ (i : Nat) (y : Int), (pre ++ l)[i]? = some y → (putI cs off l)[i]? = some (.int .i64 y) := by
  subst hoff
  refine ⟨by unfold putI; simp; omega, fun i y hy => ?_⟩
  unfold putI
  rw [List.getElem?_toArray]
  by_cases hi : i < pre.length
  · rw [List.getElem?_append_left hi] at hy
    rw [List.append_assoc, List.getElem?_append_left (by simp; omega), List.getElem?_take_of_lt hi, Array.getElem?_toList]
    exact h i y hy
  · rw [List.getElem?_append_right (by omega)] at hy
    have hlt := (List.getElem?_eq_some_iff.1 hy).1
    rw [List.append_assoc, List.getElem?_append_right (by simp; omega), List.getElem?_append_left (by simp; omega), List.getElem?_map]
    have e : i - (cs.toList.take pre.length).length = i - pre.length := by simp; omega
    rw [e, hy]
    rfl

theorem flatL_at {ns : List Nd} {i j : Nat} {x : Nd} {y : Int} (hx : ns[i]? = some x) (hy : x.l[j]? = some y) : (flatL ns)[(flatL (ns.take i)).length + j]? = some y := by
  have hj := (List.getElem?_eq_some_iff.1 hy).1
  have e : flatL ns = flatL (ns.take (i + 1)) ++ flatL (ns.drop (i + 1)) := by rw [← flatL_append, List.take_append_drop]
  rw [e, flatL_succ hx, List.append_assoc, List.getElem?_append_right (by omega), List.getElem?_append_left (by omega)]
  rw [← hy]
  congr 1
  omega
theorem IntsI.of_room {W : World} {lo hi gr : Nat} {ns : List Nd} {i : Nat} {x : Nd} (hb : Blk W gr 3 (intsOf (flatL ns))) (hx : ns[i]? = some x) (hw : ∀ y ∈ x.l, W64 y) (hm : x.l.length ≤ maxLen) (h1 : lo ≤ gr) (h2 : gr < hi) :
    IntsI W lo hi (sliceAt gr (flatL (ns.take i)).length x.l) x.l := by
  unfold sliceAt
  by_cases hl : x.l = []
  · rw [if_pos hl, hl]; exact IntsI.nil _ _ _
  · rw [if_neg hl]
    exact ⟨_, _, rfl, Nat.le_refl _, hm, hw, fun _ => ⟨gr, _, rfl, h1, h2, fun j y hy => by rw [hb.cell]; exact intsOf_get (flatL_at hx hy)⟩⟩
theorem NodesI.at' {W : World} {lo hi : Nat} {u : Value} {ns : List Nd} (h : NodesI W lo hi u ns) {i : Nat} {x : Nd} (hx : ns[i]? = some x) : ∃ s, IntsI W lo hi s x.l ∧ W64 x.op ∧ W64 x.n := by
  obtain ⟨A, c, rfl, h1, h2, h3⟩ := h
  obtain ⟨b, o, rfl, _, _, hc⟩ := h3 (fun e => by rw [e] at hx; simp at hx)
  obtain ⟨s, _, _, _, q⟩ := hc i x hx
  exact ⟨s, q⟩
theorem CopyS.funI {w W : World} {F : Fd} {v v0 : Value} {lo hi : Nat} (h : CopyS w F v W) (hw : FunI w lo hi v0 F) : FunI W w.heap.size W.heap.size v F := by
  obtain ⟨gr, s, rfl, hgr, hb, hrow, hown⟩ := h.ex
  obtain ⟨s0, rfl, hp, hn0⟩ := hw
  obtain ⟨A, c, rfl, hc1, hc2⟩ := hrow.form
  refine ⟨_, rfl, hp, A, c, rfl, hc1, hc2, fun hne => ?_⟩
  obtain ⟨g, cap, cur, e, hbr, _⟩ := hrow.addr (List.length_pos_iff.2 hne)
  simp only [Value.slice.injEq, true_and] at e
  obtain ⟨rfl, rfl⟩ := e
  refine ⟨g, 0, rfl, hown g (by simp [Value.ownBlock]), hbr.lt, fun i x hx => ?_⟩
  obtain ⟨r0, r1, r2⟩ := rowV_get (g := gr) 0 hx
  have hlt := (List.getElem?_eq_some_iff.1 hx).1
  obtain ⟨s1, hs1, w0, w1⟩ := hn0.at' hx
  obtain ⟨_, _, _, k1, k2, hw64, _⟩ := hs1
  refine ⟨sliceAt gr (flatL (F.ns.take i)).length x.l, ?_, ?_, ?_, IntsI.of_room hb hx hw64 (by omega) hgr hb.lt, w0, w1⟩
  · rw [Nat.zero_add, (hrow.cells rfl _ (by omega)).1]; exact r0
  · rw [Nat.zero_add, (hrow.cells rfl _ (by omega)).1]; exact r1
  · rw [Nat.zero_add, (hrow.cells rfl _ (by omega)).1]; simpa using r2

theorem CK.start {w W : World} {F : Fd} {A : Option Addr} {c gr : Nat} {cs : Array Value} (h : CB w F A c (.slice none 0 0) W) (hb : Blk W gr 3 cs) (hs : cs.size = (flatL F.ns).length) (hg : w.heap.size + 2 < gr) : CK w F A c gr 0 0 (.slice none 0 0) (some ⟨gr, 0, none⟩) W :=
  ⟨h, Row.nil _ _ _, by intro j hj; simp [Value.ownBlock] at hj, ⟨cs, hb, hs, by intro i y hy; simp [flatL] at hy⟩, fun _ => rfl, hg⟩
theorem CK.placed {w W W' : World} {F : Fd} {A : Option Addr} {c gr k : Nat} {v : Value} {B B' : Option Addr} {x : Nd} {cs : Array Value} (h : CK w F A c gr k k v B W) (hx : F.ns[k]? = some x) (hk : Keep (fun j => j = gr) W W')
    (h0 : Blk W gr 3 cs) (h1 : cs.size = (flatL F.ns).length ∧ ∀ (i : Nat) (y : Int), (flatL (F.ns.take k))[i]? = some y → cs[i]? = some (.int .i64 y)) (hb : Blk W' gr 3 (putI cs (flatL (F.ns.take k)).length x.l))
    (hr : RoomI B' gr ((flatL (F.ns.take k)).length + x.l.length) ((flatL F.ns).length - (flatL (F.ns.take k)).length - x.l.length)) : CK w F A c gr k (k + 1) v B' W' := by
  have hle := flatL_part (ns := F.ns) (k + 1)
  have hE := flatL_succ hx
  rw [hE, List.length_append] at hle
  obtain ⟨p1, p2⟩ := putI_get (cs := cs) (l := x.l) rfl (by omega) h1.2
  refine ⟨h.cb.keep hk (fun j hj => by subst hj; exact h.grl), h.row.keep (fun j hj => hk.block j (h.row.lt j hj) (fun e => h.row.ne_blk h0 (by decide) (by rw [hj, e]))), h.own, ⟨_, hb, p1.trans h1.1, by rw [hE]; exact p2⟩, ?_, h.grl⟩
  rw [hE, List.length_append]
  rwa [← Nat.sub_sub]
theorem CK.pushed {w W W' : World} {F : Fd} {A : Option Addr} {c gr k : Nat} {v v' : Value} {B : Option Addr} {x : Nd} {o : Obj} (h : CK w F A c gr k (k + 1) v B W) (hx : F.ns[k]? = some x)
    (hr : Row W' 47 3 v' (k + 1) (rowV gr 0 (F.ns.take k) ++ nodeV gr (flatL (F.ns.take k)).length x)) (hg : (W.alloc o).grownBy W' v.ownBlock) (ho : v'.ownBlock = v.ownBlock ∨ v'.ownBlock = some (W.alloc o).heap.size) :
    W'.cell? ⟨w.heap.size + 2, 1, none⟩ = some v ∧ W'.frozen? ⟨w.heap.size + 2, 1, none⟩ = false ∧ CK w F A c gr (k + 1) (k + 1) v' B (W'.setCell ⟨w.heap.size + 2, 1, none⟩ v') := by
  have hK : Keep (fun j => v.ownBlock = some j) W W' := ((Keep.refl _ W).alloc o).grown hg (fun j hj => .inl hj)
  have hcb := h.cb.keep hK h.own
  have hc := hcb.cb.cell 1
  simp at hc
  have hown : ∀ j, v'.ownBlock = some j → w.heap.size + 2 < j := fun j hj => by
    rcases ho with e | e
    · exact h.own j (e ▸ hj)
    · rw [e] at hj
      simp at hj
      have := h.cb.cb.lt
      omega
  obtain ⟨cs, k0, k1, k2⟩ := h.room
  have k0' : Blk W' gr 3 cs := k0.keep (hK.block _ k0.lt (h.row.ne_blk k0 (by decide)))
  have hgr := h.grl
  refine ⟨hc, hcb.cb.frozen 1, ⟨?_, hcb.fb.far (by simp) _, hcb.rb.far (by simp) _, by simpa using hcb.cb.set 1 v'⟩, ?_, hown, ⟨cs, k0'.far (by show gr ≠ w.heap.size + 2; omega) _, k1, k2⟩, h.rm, h.grl⟩
  · exact hcb.bl.setCell (by show w.heap.size ≤ w.heap.size + 2; omega) _
  · have hE : rowV gr 0 (F.ns.take (k + 1)) = rowV gr 0 (F.ns.take k) ++ nodeV gr (flatL (F.ns.take k)).length x := by
      rw [take_succ6 hx, rowV_append]
      simp [rowV]
    rw [hE]
    exact hr.far (fun e => by have := hown _ e; exact Nat.lt_irrefl _ this) _
theorem CK.end_ {w W : World} {F : Fd} {A : Option Addr} {c gr : Nat} {v : Value} {B : Option Addr} (h : CK w F A c gr F.ns.length F.ns.length v B W) {W' : World} (hk : Keep (fun j => j = w.heap.size + 1) W W') : CopyS w F (.agg #[.int .i64 F.p, v]) W' := by
  obtain ⟨cs, k1, k2, k3⟩ := h.room
  have h2 := h.row
  rw [List.take_length] at h2 k3
  have hc : cs = intsOf (flatL F.ns) := by
    apply Array.ext_getElem?
    intro i
    by_cases hi : i < (flatL F.ns).length
    · obtain ⟨y, hy⟩ : ∃ y, (flatL F.ns)[i]? = some y := ⟨_, List.getElem?_eq_getElem hi⟩
      rw [k3 i y hy, intsOf_get hy]
    · rw [Array.getElem?_eq_none (by omega), Array.getElem?_eq_none (by rw [intsOf_size]; omega)]
  rw [hc] at k1
  have hgr := h.grl
  refine ⟨h.cb.bl.trans ((hk.mono (G := fun j => w.heap.size ≤ j) (fun j hj => by omega)).below (fun _ hj => hj) h.cb.bl.size), gr, v, rfl, by omega, k1.keep (hk.block _ k1.lt (by omega)), h2.keep (fun j hj => hk.block j (h2.lt j hj) (by have := h.own j hj; omega)), fun j hj => by have := h.own j hj; omega⟩
theorem sliceAt_form (g off : Nat) (l : List Int) : ∃ S c, sliceAt g off l = .slice S l.length c := by
  unfold sliceAt
  by_cases h : l = []
  · rw [if_pos h, h]; exact ⟨_, _, rfl⟩
  · rw [if_neg h]; exact ⟨_, _, rfl⟩
/-- place, in Copy's round. -/
theorem place_at {w W W2 : World} {F : Fd} {A : Option Addr} {c gr k hi : Nat} {v : Value} {B : Option Addr} {x : Nd} {u : Value} {m off : Nat} (h : CK w F A c gr k k v B W) (hx : F.ns[k]? = some x) (hm : (flatL F.ns).length = m) (hmm : m ≤ 100000) (hoff : (flatL (F.ns.take k)).length = off)
    (hW2 : (W.alloc (.cells #[.int .i64 x.op, .int .i64 x.n, u] 47)).alloc (.cells #[.int .i64 0, .int .i64 0, .slice none 0 0] 47) = W2) (hu : IntsI W 0 hi u x.l) (hh : hi ≤ W.heap.size) :
    Calls Try.prog 36 #[.agg #[.int .i64 x.op, .int .i64 x.n, u], .slice B (m - off) (m - off)] W2 fun e w' => ∃ S cS B', e = .returned (.tuple #[.agg #[.int .i64 x.op, .int .i64 x.n, .slice S x.l.length cS], .slice B' (m - (off + x.l.length)) (m - (off + x.l.length))]) ∧
      w'.cell? ⟨W.heap.size + 1, 0, none⟩ = some (.int .i64 0) ∧ w'.cell? ⟨W.heap.size + 1, 1, none⟩ = some (.int .i64 0) ∧ w'.cell? ⟨W.heap.size + 1, 2, none⟩ = some (.slice none 0 0) ∧ w'.frozen? ⟨W.heap.size + 1, 0, none⟩ = false ∧ w'.frozen? ⟨W.heap.size + 1, 1, none⟩ = false ∧ w'.frozen? ⟨W.heap.size + 1, 2, none⟩ = false ∧
      Hid (sliceAt gr off x.l = .slice S x.l.length cS ∧ ∀ W6, Keep (fun j => j = W.heap.size + 1) w' W6 → CK w F A c gr k (k + 1) v B' W6) := by
  subst hm
  subst hoff
  obtain ⟨cs, k0, k1, k2⟩ := h.room
  have hb2 : Below W.heap.size W W2 := by rw [← hW2]; exact below2' W _ _
  have hn2 : Blk W2 (W.heap.size + 1) 47 #[.int .i64 0, .int .i64 0, .slice none 0 0] := by rw [← hW2]; exact blkN (by simp) _ _
  have hle := flatL_part (ns := F.ns) (k + 1)
  rw [flatL_succ hx, List.length_append] at hle
  have hne : W.heap.size + 1 ≠ gr := by have := k0.lt; omega
  refine (place6_ok W2 (hu.below hb2 hh) (k0.keep (hb2.block _ k0.lt)) (by omega) (by omega) (by unfold maxLen; omega) h.rm).mono fun e w' q => ?_
  obtain ⟨B', rfl, q1, q2, q3⟩ := q
  obtain ⟨S, cS, hS⟩ := sliceAt_form gr (flatL (F.ns.take k)).length x.l
  have hn3 := hn2.keep (q3.block _ hn2.lt hne)
  refine ⟨S, cS, B', by rw [hS, Nat.sub_sub], by simpa using hn3.cell 0, by simpa using hn3.cell 1, by simpa using hn3.cell 2, hn3.frozen 0, hn3.frozen 1, hn3.frozen 2, Lib.hid ⟨hS, fun W6 hk6 => ?_⟩⟩
  have hKK : Keep (fun j => j = gr) W W6 := by
    have h1 : Keep (fun j => j = gr) W W2 := Keep.ofB hb2
    have h2 := h1.trans q3
    exact ⟨hk6.os.trans h2.os, hk6.tape.trans h2.tape, hk6.output.trans h2.output, Nat.le_trans h2.size hk6.size, fun j hj hne' => (hk6.block j (Nat.lt_of_lt_of_le hj h2.size) (by omega)).trans (h2.block j hj hne')⟩
  exact h.placed hx hKK k0 ⟨k1, k2⟩ (q2.keep (hk6.block _ q2.lt (fun e => hne e.symm))) q1

set_option maxRecDepth 100000 in
set_option maxHeartbeats 3200000 in
theorem Copy_ok6 {F : Fd} {v : Value} {hi : Nat} (w : World) (h : FunI w 0 hi v F) (hh : hi ≤ w.heap.size) (hF : FewF F) : Calls Try.prog 19 #[v] w fun e w' => ∃ v', e = .returned v' ∧ CopyS w F v' w' := by
  obtain ⟨s, rfl, hp, hn⟩ := h
  obtain ⟨A, c, rfl, hc1, hc2⟩ := hn.form
  obtain ⟨hF1, hF2⟩ := hF
  have hsum := flatL_le hF2
  unfold maxLen at hc2
  obtain ⟨W3, hW3⟩ : ∃ X, ((w.alloc (.cells #[.int .i64 F.p, .slice A F.ns.length c] 24)).alloc (.cells #[.int .i64 0, .slice none 0 0] 24)).alloc (.cells #[.int .i64 F.p, .slice none 0 0] 24) = X := ⟨_, rfl⟩
  have hCB : CB w F A c (.slice none 0 0) W3 := by
    rw [← hW3]
    exact ⟨(below2' w _ _).alloc (by simp; omega) _, ((Blk.new _ _ _).alloc _).alloc _, (blkN (by simp) _ _).alloc _, blkN (by simp) _ _⟩
  have HN := Lib.hid hn
  have HCB := Lib.hid hCB
  have HF2 := Lib.hid hF2
  have HW3 := Lib.hid hW3
  clear hn hCB hF2 hp hW3
  go_enter Try.func19, Try.ntmps19
  go_upto_region 3 with fail
  rw [HW3.out]
  clear HW3
  have a0 := HCB.out.fb.cell 0
  have a1 := HCB.out.fb.cell 1
  have la := HCB.out.fb.lt
  simp at a0 a1
  go_wp2_with fail
  clear a0 a1 la
  go_loopw [4, 17] (fun q p wr => ∃ k : Nat, k ≤ F.ns.length ∧ p = .int .i64 (k : Int) ∧ q = .int .i64 ((flatL (F.ns.take k)).length : Int) ∧ Hid (CB w F A c (.slice none 0 0) wr)) (fun _ p _ => F.ns.length - (intOf p).toNat)
  case atStart => exact ⟨0, Nat.zero_le _, rfl, by simp [flatL], HCB⟩
  case round =>
    obtain ⟨k, hk, rfl, rfl, hC⟩ := hrel
    clear HCB
    have hk0 : (0 : Int) ≤ (k : Int) := by omega
    by_cases hlt : k < F.ns.length
    · have hltI : (k : Int) < (F.ns.length : Int) := by omega
      obtain ⟨x, hx⟩ : ∃ x, F.ns[k]? = some x := ⟨_, List.getElem?_eq_getElem hlt⟩
      obtain ⟨b, o, sx, rfl, _, hbh, c0, c1, c2, hsx, _, _⟩ := (HN.out.below hC.out.bl hh).at_ hx
      obtain ⟨X, cx, rfl, hx1, hx2⟩ := hsx.form
      have lb := lt_of_cell c0
      have hxl := HF2.out x (List.mem_of_getElem? hx)
      have hsl : ((flatL (F.ns.take k)).length) ≤ (flatL F.ns).length := by have := flatL_part (ns := F.ns) k; omega
      have hw1 : IntKind.i64.wrap (((flatL (F.ns.take k)).length : Int) + (x.l.length : Int)) = ((flatL (F.ns.take k)).length : Int) + (x.l.length : Int) := IntWalk.i64_in _ (by omega)
      have hE : ((flatL (F.ns.take (k + 1))).length : Int) = ((flatL (F.ns.take k)).length : Int) + (x.l.length : Int) := by rw [flatL_succ hx, List.length_append]; omega
      have HE := Lib.hid hE
      have HX := Lib.hid hx
      clear hsx hx hE
      go_wp2_with fail
      exact ⟨⟨k + 1, by omega, by go_num, by rw [HE.out], Lib.hid (hC.out.alloc _)⟩, by simp [intOf]; omega⟩
    · have hltI : ¬ (k : Int) < (F.ns.length : Int) := by omega
      obtain rfl : k = F.ns.length := by omega
      rw [List.take_length]
      obtain ⟨m, hm⟩ : ∃ m, (flatL F.ns).length = m := ⟨_, rfl⟩
      rw [hm] at hsum ⊢
      obtain ⟨i0, hi0', hz0, hz1, hz2⟩ := info_parts6 intInfo
      have hmk : (Instr.makeSlice 45 (.int .i64 (m : Int)) (.int .i64 (m : Int))).run Try.prog wr = .ok (.slice (some ⟨wr.heap.size, 0, none⟩) m m) (wr.alloc (.cells (fillC m 0 0) 3)) := by
        have hr := run_make (P := Try.prog) wr 45 3 i0 _ Try.underlying45 hi0' hz0 .i64 .i64 m m (by omega) (Int.le_refl _) (by rw [hz2]; omega) (by omega)
        rw [fillC_zero]
        simpa [hz1, Value.cells] using hr
      clear hi0' hz0 hz1 hz2 i0
      go_upto_region 9 with fail
      obtain ⟨gr, hgr⟩ : ∃ g, wr.heap.size = g := ⟨_, rfl⟩
      obtain ⟨W4, hW4⟩ : ∃ X, wr.alloc (.cells (fillC m 0 0) 3) = X := ⟨_, rfl⟩
      have hB4 : Blk W4 gr 3 (fillC m 0 0) := by rw [← hW4]; exact blkN hgr _ _
      have hC4 : CB w F A c (.slice none 0 0) W4 := by rw [← hW4]; exact hC.out.alloc _
      have hK4 : CK w F A c gr 0 0 (.slice none 0 0) (some ⟨gr, 0, none⟩) W4 := CK.start hC4 hB4 (by rw [hm, fillC_size (by omega)]) (by have := hC.out.cb.lt; omega)
      rw [hW4, hgr]
      have HK4 := Lib.hid hK4
      have a0 := hC4.fb.cell 0
      have a1 := hC4.fb.cell 1
      have la := hC4.fb.lt
      simp at a0 a1
      clear hmk hW4 hgr hB4 hC4 hK4 hC hlt
      go_wp2_with fail
      clear a0 a1 la
      have HM := Lib.hid hm
      clear hm
      go_loopw [7, 32] (fun q p wr => ∃ (k : Nat) (B : Option Addr) (off : Nat), k ≤ F.ns.length ∧ p = .int .i64 (k : Int) ∧ q = .slice B (m - off) (m - off) ∧ Hid ((flatL (F.ns.take k)).length = off ∧ ∃ v, CK w F A c gr k k v B wr)) (fun _ p _ => F.ns.length - (intOf p).toNat)
      case atStart => exact ⟨0, _, 0, Nat.zero_le _, rfl, rfl, Lib.hid ⟨by simp [flatL], _, HK4.out⟩⟩
      case round =>
        obtain ⟨k, B, off, hk, rfl, rfl, hC⟩ := hrel
        clear HK4
        obtain ⟨hoff, v, hCK⟩ := hC.out
        have hk0 : (0 : Int) ≤ (k : Int) := by omega
        by_cases hlt : k < F.ns.length
        · have hltI : (k : Int) < (F.ns.length : Int) := by omega
          obtain ⟨x, hx⟩ : ∃ x, F.ns[k]? = some x := ⟨_, List.getElem?_eq_getElem hlt⟩
          have hbl := hCK.cb.bl
          obtain ⟨b, o, sx, rfl, _, hbh, c0, c1, c2, hsx, _, _⟩ := (HN.out.below hbl hh).at_ hx
          obtain ⟨X, cx, rfl, hx1, hx2⟩ := hsx.form
          have lb := lt_of_cell c0
          obtain ⟨W2, hW2⟩ : ∃ X', (wr.alloc (.cells #[.int .i64 x.op, .int .i64 x.n, .slice X x.l.length cx] 47)).alloc (.cells #[.int .i64 0, .int .i64 0, .slice none 0 0] 47) = X' := ⟨_, rfl⟩
          have hpl := place_at hCK hx HM.out (by omega) hoff hW2 hsx (Nat.le_trans hh hbl.size)
          obtain ⟨Av, cv, rfl, _, _⟩ := hCK.row.form
          have HPL := Lib.hid hpl
          have HX := Lib.hid hx
          have HOFF := Lib.hid hoff
          rw [← hW2] at HPL
          clear hpl hx hoff hW2 hsx hC hCK hbl
          go_upto_region 14 with (go_at_call 36; (with_reducible refine HPL.out.mono ?_); rintro e w6 ⟨S, cS, B', rfl, r0, r1, r2, s0, s1, s2, hQ⟩)
          obtain ⟨W6, hW6⟩ : ∃ X', ((w6.setCell ⟨wr.heap.size + 1, 0, none⟩ (.int .i64 x.op)).setCell ⟨wr.heap.size + 1, 1, none⟩ (.int .i64 x.n)).setCell ⟨wr.heap.size + 1, 2, none⟩ (.slice S x.l.length cS) = X' := ⟨_, rfl⟩
          obtain ⟨t0, t1, t2⟩ := set3_cells6 r0 r1 r2 (.int .i64 x.op) (.int .i64 x.n) (.slice S x.l.length cS)
          rw [hW6] at t0 t1 t2 ⊢
          have hCK6 := hQ.out.2 W6 (by rw [← hW6]; exact keep_set36 (F := fun j => j = wr.heap.size + 1) (Keep.refl _ _) (.inl rfl) _ _ _)
          have HSL := Lib.hid hQ.out.1
          have d0 : W6.cell? ⟨w.heap.size + 1 + 1, 1, none⟩ = some (.slice Av k cv) := by simpa using hCK6.cb.cb.cell 1
          have ld : w.heap.size + 1 + 1 < W6.heap.size := hCK6.cb.cb.lt
          have lr : wr.heap.size + 1 < W6.heap.size := lt_of_cell t0
          obtain ⟨i0, hi0', hz0, hz1, hz2⟩ := info_parts6 nodeInfo
          have HCK := Lib.hid hCK6
          clear hQ hCK6 hW6 r0 r1 r2 s0 s1 s2 c0 c1 c2 lb HPL
          go_wp2_with (first
            | (at_builtin
               refine wpList_append_row _ rfl (.tmp 43) (.tmp 45) 22 rfl 47 47 i0 (.agg #[.int .i64 0, .int .i64 0, .slice none 0 0]) 3 40 Try.underlying22 hi0' hz0 hz1 hz2 rfl _ k _ rfl (HCK.out.row.alloc _) _ 1 _ rfl (Row.made_at W6 _ rfl 47 3 1 #[.int .i64 x.op, .int .i64 x.n, .slice S x.l.length cS] [.int .i64 x.op, .int .i64 x.n, .slice S x.l.length cS] rfl (by simp [maxLen]) rfl) (by simp [Value.oneCell']) (by unfold maxLen; omega) (by omega) ?_
               intro v3 w3 hr3 hg3 ho3
               obtain ⟨f1, f2, f3⟩ := HCK.out.pushed HX.out (by rw [HOFF.out]; unfold nodeV; rw [HSL.out]; exact hr3) hg3 ho3
               obtain ⟨A3, c3, rfl, _, _⟩ := hr3.form
               have f1' : w3.cell? ⟨w.heap.size + 1 + 1, 1, none⟩ = some (.slice Av k cv) := f1
               have f2' : w3.frozen? ⟨w.heap.size + 1 + 1, 1, none⟩ = false := f2
               have HC3 := Lib.hid f3
               clear hr3 hg3 ho3 f3 f1 f2))
          refine ⟨⟨k + 1, B', off + x.l.length, by omega, by go_num, rfl, Lib.hid ⟨by rw [flatL_succ HX.out, List.length_append, HOFF.out], _, HC3.out⟩⟩, by simp [intOf]; omega⟩
        · have hltI : ¬ (k : Int) < (F.ns.length : Int) := by omega
          obtain rfl : k = F.ns.length := by omega
          obtain ⟨Av, cv, rfl, _, _⟩ := hCK.row.form
          have d0 : wr.cell? ⟨w.heap.size + 1 + 1, 0, none⟩ = some (.int .i64 F.p) := by simpa using hCK.cb.cb.cell 0
          have d1 : wr.cell? ⟨w.heap.size + 1 + 1, 1, none⟩ = some (.slice Av F.ns.length cv) := by simpa using hCK.cb.cb.cell 1
          have ld : w.heap.size + 1 + 1 < wr.heap.size := hCK.cb.cb.lt
          have r0 := hCK.cb.rb.cell 0
          have r1 := hCK.cb.rb.cell 1
          have s0 := hCK.cb.rb.frozen 0
          have s1 := hCK.cb.rb.frozen 1
          have lr := hCK.cb.rb.lt
          simp at r0 r1
          have HCK := Lib.hid hCK
          clear hC hoff hCK
          go_wp2_with fail
          have hx := (HCK.out.cb.rb.set 0 (.int .i64 F.p)).set 1 (.slice Av F.ns.length cv)
          have x0 := hx.cell 0
          have x1 := hx.cell 1
          simp at x0 x1
          refine bodyPost_ret (v := .agg #[.int .i64 F.p, .slice Av F.ns.length cv]) (by simp [results, Try.results19, go_sem, x0, x1]) rfl ⟨_, rfl, HCK.out.end_ ?_⟩
          exact (Keep.setCell (p := ⟨w.heap.size + 1, 0, none⟩) (Keep.refl (fun j => j = w.heap.size + 1) wr) (.inl rfl) _).setCell (p := ⟨w.heap.size + 1, 1, none⟩) (.inl rfl) _
end Go.Proofs.Ytleihdakmibmhaa
