/- FunChecks, FunTells: their walks. -/
import Derived.Test.YtleihdakmibmhaaFv
import Derived.Test.YtleihdakmibmhaaFt
namespace Go.Proofs.Ytleihdakmibmhaa
open Go.RowKit Go.Shelf
attribute [local go_sem] Oper.semAt_some

/-- What stands at a law's start: the function's box. -/
theorem KB.law {F : Fd} {A : Option Addr} {c : Nat} (w : World) (h : FunI w 0 w.heap.size (.agg #[.int .i64 F.p, .slice A F.ns.length c]) F) :
    KB w [(w.heap.size, 24, #[.int .i64 F.p, .slice A F.ns.length c])] [(w.heap.size, .agg #[.int .i64 F.p, .slice A F.ns.length c], F)] (w.alloc (.cells #[.int .i64 F.p, .slice A F.ns.length c] 24)) :=
  ((KB.start w).addF h (Nat.le_refl _)).pushB _ _

set_option maxRecDepth 100000 in
set_option maxHeartbeats 3200000 in
theorem checks_walk (F : Fd) (v : Value) (w : World) (h : FunI w 0 w.heap.size v F) : Calls Try.prog 3 #[v] w fun e w' => e = .returned (.bool true) ∧ Below w.heap.size w w' := by
  obtain ⟨A, c, rfl⟩ := h.form
  have hK := Lib.hid (KB.law w h)
  obtain ⟨bs, hbs⟩ : ∃ l : List (Nat × TypeId × Array Value), [(w.heap.size, 24, #[.int .i64 F.p, .slice A F.ns.length c])] = l := ⟨_, rfl⟩
  obtain ⟨fs, hfs⟩ : ∃ l : List (Nat × Value × Fd), [(w.heap.size, Value.agg #[.int .i64 F.p, .slice A F.ns.length c], F)] = l := ⟨_, rfl⟩
  have mf : (w.heap.size, 24, #[Value.int .i64 F.p, .slice A F.ns.length c]) ∈ bs := by rw [← hbs]; simp
  have mF : (w.heap.size, Value.agg #[.int .i64 F.p, .slice A F.ns.length c], F) ∈ fs := by rw [← hfs]; simp
  rw [hbs, hfs] at hK
  have HF := Lib.hid (fun W (hk : Hid (KB w bs fs W)) => hk.out.call (few_ok W (hk.out.funI mF) (Nat.le_refl _)))
  have HW := Lib.hid (fun W (hk : Hid (KB w bs fs W)) => hk.out.call (Where_ok W (hk.out.funI mF)))
  have HR := Lib.hid (fun W (hk : Hid (KB w bs fs W)) => hk.out.call (rWhere_ok W (hk.out.funI mF)))
  have HC := Lib.hid (fun W (hk : Hid (KB w bs fs W)) => hk.out.call (Check_ok6 W (hk.out.funI mF)))
  have HO := Lib.hid (fun W (hk : Hid (KB w bs fs W)) => hk.out.call (works_ok6 W))
  have HN := Lib.hid (fun n W => num_ok6 n W)
  obtain ⟨a, ha⟩ : ∃ a, (whereF F).1 = a := ⟨_, rfl⟩
  obtain ⟨b, hb⟩ : ∃ a, (whereF F).2 = a := ⟨_, rfl⟩
  rw [ha, hb] at HW HR
  rw [hb] at HC
  clear hbs hfs h ha hb
  cases hf : fewB F
  all_goals
    rw [hf] at HF
    clear hf
    go_enter Try.func3, Try.ntmps3
    go_wp2_with (first | (go_at_call 9; (with_reducible refine (HF.out _ hK).mono ?_); rintro e w1 ⟨rfl, hK⟩; obtain ⟨c0, c1, lt⟩ := KB.box2 hK mf) | (go_at_call 10; (with_reducible refine (HO.out _ hK).mono ?_); rintro e w1 ⟨rfl, hK⟩; obtain ⟨c0, c1, lt⟩ := KB.box2 hK mf) | (go_at_call 11; (with_reducible refine (HW.out _ hK).mono ?_); rintro e w1 ⟨rfl, hK⟩; obtain ⟨c0, c1, lt⟩ := KB.box2 hK mf) | (go_at_call 12; (with_reducible refine (HR.out _ hK).mono ?_); rintro e w1 ⟨rfl, hK⟩; obtain ⟨c0, c1, lt⟩ := KB.box2 hK mf) | (go_at_call 14; (with_reducible refine (HC.out _ hK).mono ?_); rintro e w1 ⟨rfl, hK⟩; obtain ⟨c0, c1, lt⟩ := KB.box2 hK mf) | (go_at_call 13; (with_reducible refine (HN.out _ _).mono ?_); rintro e w2 ⟨rfl, rfl⟩))
    go_ret
    exact ⟨rfl, hK.out.bl⟩
set_option maxRecDepth 100000 in
set_option maxHeartbeats 3200000 in
theorem tells_walk (F : Fd) (v : Value) (node : Int) (w : World) (h : FunI w 0 w.heap.size v F) : Calls Try.prog 4 #[v, .int .i64 node] w fun e w' => e = .returned (.bool true) ∧ Below w.heap.size w w' := by
  obtain ⟨A, c, rfl⟩ := h.form
  have hK := Lib.hid (KB.law w h)
  obtain ⟨bs, hbs⟩ : ∃ l : List (Nat × TypeId × Array Value), [(w.heap.size, 24, #[.int .i64 F.p, .slice A F.ns.length c])] = l := ⟨_, rfl⟩
  obtain ⟨fs, hfs⟩ : ∃ l : List (Nat × Value × Fd), [(w.heap.size, Value.agg #[.int .i64 F.p, .slice A F.ns.length c], F)] = l := ⟨_, rfl⟩
  have mf : (w.heap.size, 24, #[Value.int .i64 F.p, .slice A F.ns.length c]) ∈ bs := by rw [← hbs]; simp
  have mF : (w.heap.size, Value.agg #[.int .i64 F.p, .slice A F.ns.length c], F) ∈ fs := by rw [← hfs]; simp
  rw [hbs, hfs] at hK
  have HF := Lib.hid (fun W (hk : Hid (KB w bs fs W)) => hk.out.call (few_ok W (hk.out.funI mF) (Nat.le_refl _)))
  have HD := Lib.hid (fun W (hk : Hid (KB w bs fs W)) => hk.out.call (Depth_ok node W (hk.out.funI mF)))
  have HP := Lib.hid (fun W (hk : Hid (KB w bs fs W)) => hk.out.call (Parent_ok node W (hk.out.funI mF)))
  have HE := Lib.hid (fun W (hk : Hid (KB w bs fs W)) => hk.out.call (rDepth_ok node W (hk.out.funI mF)))
  have HQ := Lib.hid (fun W (hk : Hid (KB w bs fs W)) => hk.out.call (rParent_ok node W (hk.out.funI mF)))
  have HO := Lib.hid (fun W (hk : Hid (KB w bs fs W)) => hk.out.call (works_ok6 W))
  have HN := Lib.hid (fun n W => num_ok6 n W)
  obtain ⟨a, ha⟩ : ∃ a, (depthF F node).1 = a := ⟨_, rfl⟩
  obtain ⟨b, hb⟩ : ∃ a, (depthF F node).2 = a := ⟨_, rfl⟩
  obtain ⟨a', ha'⟩ : ∃ a, (parentF F node).1 = a := ⟨_, rfl⟩
  obtain ⟨b', hb'⟩ : ∃ a, (parentF F node).2 = a := ⟨_, rfl⟩
  rw [ha, hb] at HD HE
  rw [ha', hb'] at HP HQ
  clear hbs hfs h ha hb ha' hb'
  cases hf : fewB F
  all_goals
    rw [hf] at HF
    clear hf
    go_enter Try.func4, Try.ntmps4
    go_wp2_with (first | (go_at_call 9; (with_reducible refine (HF.out _ hK).mono ?_); rintro e w1 ⟨rfl, hK⟩; obtain ⟨c0, c1, lt⟩ := KB.box2 hK mf) | (go_at_call 10; (with_reducible refine (HO.out _ hK).mono ?_); rintro e w1 ⟨rfl, hK⟩; obtain ⟨c0, c1, lt⟩ := KB.box2 hK mf) | (go_at_call 15; (with_reducible refine (HD.out _ hK).mono ?_); rintro e w1 ⟨rfl, hK⟩; obtain ⟨c0, c1, lt⟩ := KB.box2 hK mf) | (go_at_call 16; (with_reducible refine (HE.out _ hK).mono ?_); rintro e w1 ⟨rfl, hK⟩; obtain ⟨c0, c1, lt⟩ := KB.box2 hK mf) | (go_at_call 17; (with_reducible refine (HP.out _ hK).mono ?_); rintro e w1 ⟨rfl, hK⟩; obtain ⟨c0, c1, lt⟩ := KB.box2 hK mf) | (go_at_call 18; (with_reducible refine (HQ.out _ hK).mono ?_); rintro e w1 ⟨rfl, hK⟩; obtain ⟨c0, c1, lt⟩ := KB.box2 hK mf) | (go_at_call 13; (with_reducible refine (HN.out _ _).mono ?_); rintro e w2 ⟨rfl, rfl⟩))
    go_ret
    exact ⟨rfl, hK.out.bl⟩
end Go.Proofs.Ytleihdakmibmhaa
