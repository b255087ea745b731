/- Check, IsEvent, Same. -/
import Derived.Test.YtmfcecfcfihgaaaWc
import Derived.Test.YtmfcecfcfihgaaaWe
namespace Go.Proofs.Ytmfcecfcfihgaaa
open Go.RowKit Go.Shelf
attribute [local go_sem] Oper.semAt_some

/-- A slice that was just made of values that lie in memory. -/
theorem Ls.made {W : World} {hi : Nat} (hh : hi ≤ W.heap.size) (t : TypeId) (vs : List Value) (l : List V) (hl : vs.length = l.length) (hm : l.length ≤ maxLen) (h : ∀ (i : Nat) (v : Value) (x : V), vs[i]? = some v → l[i]? = some x → In W 0 hi v x)
    (cs : Array Value) (hcs : ∀ (i : Nat) (v : Value), vs[i]? = some v → ∃ x y z, v = .agg #[x, y, z] ∧ cs[i * 3]? = some x ∧ cs[i * 3 + 1]? = some y ∧ cs[i * 3 + 2]? = some z) :
    Ls (W.alloc (.cells cs t)) 0 (W.heap.size + 1) (.slice (some ⟨W.heap.size, 0, none⟩) l.length l.length) l := by
  have hb := Blk.new W t cs
  refine ⟨_, _, W.heap.size, 0, fun i => (vs[i]?).getD undef, rfl, Nat.le_refl _, hm, fun _ => ⟨rfl, Nat.zero_le _, by omega⟩, fun i hi' => ?_, fun i x hx => ?_⟩
  · have hv : vs[i]? = some vs[i] := List.getElem?_eq_getElem (by omega)
    obtain ⟨x, y, z, h1, h2, h3, h4⟩ := hcs i _ hv
    refine ⟨x, y, z, by simp only [hv, Option.getD_some]; exact h1, ?_, ?_, ?_⟩
    · rw [Nat.zero_add]; exact (hb.cell _).trans h2
    · rw [Nat.zero_add]; exact (hb.cell _).trans h3
    · rw [Nat.zero_add]; exact (hb.cell _).trans h4
  · have hlt := (List.getElem?_eq_some_iff.1 hx).1
    have hv : vs[i]? = some vs[i] := List.getElem?_eq_getElem (by omega)
    simp only [hv, Option.getD_some]
    exact ((h i _ x hv hx).after ((Below.refl _ W).alloc hh _)).mono (Nat.le_refl _) (by omega)
theorem Ls.one {W : World} {hi : Nat} {x y z : Value} {T : V} (hh : hi ≤ W.heap.size) (t : TypeId) (h : In W 0 hi (.agg #[x, y, z]) T) :
    Ls (W.alloc (.cells #[x, y, z] t)) 0 (W.heap.size + 1) (.slice (some ⟨W.heap.size, 0, none⟩) 1 1) [T] :=
  Ls.made hh t [.agg #[x, y, z]] [T] rfl (by simp [maxLen]) (fun i v u hv hu => by
    match i, hv, hu with
    | 0, hv, hu => simp at hv hu; subst hv; subst hu; exact h) #[x, y, z] (fun i v hv => by
    match i, hv with
    | 0, hv => simp at hv; subst hv; exact ⟨x, y, z, rfl, rfl, rfl, rfl⟩)
theorem Ls.pair {W : World} {hi : Nat} {x y z x' y' z' : Value} {T U : V} (hh : hi ≤ W.heap.size) (t : TypeId) (h : In W 0 hi (.agg #[x, y, z]) T) (h' : In W 0 hi (.agg #[x', y', z']) U) :
    Ls (W.alloc (.cells #[x, y, z, x', y', z'] t)) 0 (W.heap.size + 1) (.slice (some ⟨W.heap.size, 0, none⟩) 2 2) [T, U] :=
  Ls.made hh t [.agg #[x, y, z], .agg #[x', y', z']] [T, U] rfl (by simp [maxLen]) (fun i v u hv hu => by
    match i, hv, hu with
    | 0, hv, hu => simp at hv hu; subst hv; subst hu; exact h
    | 1, hv, hu => simp at hv hu; subst hv; subst hu; exact h') #[x, y, z, x', y', z'] (fun i v hv => by
    match i, hv with
    | 0, hv => simp at hv; subst hv; exact ⟨x, y, z, rfl, rfl, rfl, rfl⟩
    | 1, hv => simp at hv; subst hv; exact ⟨x', y', z', rfl, rfl, rfl, rfl⟩)

def errVal (ok : Bool) : Int := if ok then 0 else 40
/-- What Check says. -/
def Checks (w : World) (ok : Bool) (e : Ending) (w' : World) : Prop := e = .returned (.int .i64 (errVal ok)) ∧ Below w.heap.size w w'

set_option maxRecDepth 100000 in
set_option maxHeartbeats 3200000 in
theorem Check_ok {hi : Nat} {v : Value} {T : V} (w : World) (h : In w 0 hi v T) (hh : hi ≤ w.heap.size) : Calls Try.prog 64 #[v] w (Checks w (rightB T)) := by
  obtain ⟨A, c, rfl, hc1, hc2, _⟩ := h.val
  have hmf : ∀ (fn : Fn) (first cap : Array Value) (w : World), (Instr.makeFunc fn first cap).run Try.prog w = .ok (.func fn first cap) w := fun _ _ _ _ => rfl
  obtain ⟨W2, hW2⟩ : ∃ W2, (w.alloc (.cells #[.int .i64 T.k, .int .i64 T.n, .slice A T.l.length c] 36)).alloc (.cells #[.int .i64 0] 52) = W2 := ⟨_, rfl⟩
  have hs2 : W2.heap.size = w.heap.size + 1 + 1 := by rw [← hW2]; simp
  have hb2 : Below w.heap.size w W2 := by rw [← hW2]; exact below2 w _ _
  have hls := Ls.one (by omega) 36 (h.after (hb2.mono hh))
  have hd := demand1_ok _ hls (by simp)
  have hB3 : Below w.heap.size w (W2.alloc (.cells #[.int .i64 T.k, .int .i64 T.n, .slice A T.l.length c] 36)) := hb2.alloc (by omega) _
  have hcell : Blk W2 (w.heap.size + 1) 52 #[.int .i64 0] := by
    rw [← hW2]
    have := Blk.new (w.alloc (.cells #[.int .i64 T.k, .int .i64 T.n, .slice A T.l.length c] 36)) 52 #[.int .i64 0]
    rwa [World.size_alloc] at this
  have hcell3 := hcell.alloc (.cells #[.int .i64 T.k, .int .i64 T.n, .slice A T.l.length c] 36)
  have hd := hd.mono (R' := fun e w' => ((rightB T = true ∧ e = .returned (.tuple #[])) ∨ (rightB T = false ∧ e = .panicked badVal)) ∧ w'.cell? ⟨w.heap.size + 1, 0, none⟩ = some (.int .i64 0) ∧ w'.frozen? ⟨w.heap.size + 1, 0, none⟩ = false ∧ Hid (Below w.heap.size w w'))
    (fun e w' h => ⟨h.1, by simpa using (hcell3.keep (h.2.block _ hcell3.lt)).cell 0, (hcell3.keep (h.2.block _ hcell3.lt)).frozen 0, Lib.hid (hB3.trans (h.2.mono hB3.size))⟩)
  rw [← hW2] at hd
  clear hls hb2 hcell hcell3 hW2 h hB3
  simp only [World.size_alloc] at hd
  go_enter_defers Try.func64, Try.ntmps64
  go_wp2_with (go_at_call 122; refine hd.mono ?_; rintro e w' ⟨(⟨hr, rfl⟩ | ⟨hr, rfl⟩), hc, hf, hb⟩)
  · refine leaves_cons (f := 120) (args := #[.pointer (some ⟨w.heap.size + 1, 0, none⟩)]) (by simp) (by simp [go_sem]) ?_
    have hc2 : (w'.setCell ⟨w.heap.size + 1, 0, none⟩ (.int .i64 0)).cell? ⟨w.heap.size + 1, 0, none⟩ = some (.int .i64 0) := World.cell?_setCell_same _ _ _ hc
    refine (idle_Check _ _ _ hc2 (by rw [World.frozen?_setCell]; exact hf)).mono ?_
    rintro e u' w'' ⟨rfl, rfl, rfl⟩
    simp [Leaves, settle, results, Try.results64, go_sem, hc2]
    rw [hr]
    exact ⟨rfl, (hb.out.setCell (by simp) _).setCell (by simp) _⟩
  · refine leaves_cons (f := 120) (args := #[.pointer (some ⟨w.heap.size + 1, 0, none⟩)]) (by simp) (by simp [go_sem]) ?_
    refine (catch_Check _ _ _ [] _ hc hf).mono ?_
    rintro e u' w'' ⟨rfl, rfl, rfl⟩
    simp [Leaves, settle, results, Try.results64, go_sem, hc]
    exact ⟨rfl, hb.out.setCell (by simp) _⟩

set_option maxRecDepth 100000 in
set_option maxHeartbeats 3200000 in
theorem IsEvent_ok {hi : Nat} {v : Value} {T : V} (w : World) (h : In w 0 hi v T) (hh : hi ≤ w.heap.size) : Calls Try.prog 70 #[v] w fun e w' => e = .returned (.bool (evB T.k && rightB T)) ∧ Below w.heap.size w w' := by
  obtain ⟨A, c, rfl, hc1, hc2, _⟩ := h.val
  have he := event_ok T.k T.n (.slice A T.l.length c)
  have hck : ∀ w2, Below w.heap.size w w2 → Calls Try.prog 64 #[.agg #[.int .i64 T.k, .int .i64 T.n, .slice A T.l.length c]] w2 (Checks w2 (rightB T)) := fun w2 h2 => Check_ok w2 (h.after (h2.mono hh)) (Nat.le_trans hh h2.size)
  generalize rightB T = z at hck ⊢
  generalize evB T.k = y at he ⊢
  clear h
  cases y
  · go_enter Try.func70, Try.ntmps70
    go_wp2_with (go_at_call 124; refine (he _).mono ?_; rintro e w' ⟨rfl, hB⟩)
    go_ret
    exact ⟨rfl, ((Below.refl _ w).alloc (Nat.le_refl _) _).trans (hB.mono (by simp))⟩
  · have he := fun w2 => (he w2).mono (R' := fun e w' => e = .returned (.bool true) ∧ Hid (Below w2.heap.size w2 w')) (fun e w' h => ⟨h.1, Lib.hid h.2⟩)
    obtain ⟨W1, hW1⟩ : ∃ W1, w.alloc (.cells #[.int .i64 T.k, .int .i64 T.n, .slice A T.l.length c] 36) = W1 := ⟨_, rfl⟩
    have hb1 : Below w.heap.size w W1 := by rw [← hW1]; exact (Below.refl _ w).alloc (Nat.le_refl _) _
    have hbx : Blk W1 w.heap.size 36 #[.int .i64 T.k, .int .i64 T.n, .slice A T.l.length c] := by rw [← hW1]; exact Blk.new _ _ _
    have he := (he W1).mono (R' := fun e w' => e = .returned (.bool true) ∧ w'.cell? ⟨w.heap.size, 0, none⟩ = some (.int .i64 T.k) ∧ w'.cell? ⟨w.heap.size, 1, none⟩ = some (.int .i64 T.n) ∧ w'.cell? ⟨w.heap.size, 2, none⟩ = some (.slice A T.l.length c) ∧ Hid (Below w.heap.size w w'))
      (fun e w' h => ⟨h.1, by simpa using (hbx.keep (h.2.out.block _ hbx.lt)).cell 0, by simpa using (hbx.keep (h.2.out.block _ hbx.lt)).cell 1, by simpa using (hbx.keep (h.2.out.block _ hbx.lt)).cell 2, Lib.hid (hb1.trans (h.2.out.mono hb1.size))⟩)
    rw [← hW1] at he
    have HCK := Lib.hid hck
    clear hck hb1 hbx hW1
    go_enter Try.func70, Try.ntmps70
    go_wp2_with (first | (go_at_call 124; refine he.mono ?_; rintro e w' ⟨rfl, c0, c1, c2, hB⟩) | (go_at_call 64; refine (HCK.out _ hB.out).mono ?_; rintro e w2 ⟨rfl, hB2⟩))
    go_ret
    exact ⟨says_end (by cases z <;> rfl), hB.out.trans (hB2.mono hB.out.size)⟩
end Go.Proofs.Ytmfcecfcfihgaaa
