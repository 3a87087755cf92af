
/- The walk of the program's ReadHead: its deferred closure, its two ways. -/
import Derived.Test.YtgabjiamabbheaaGreatDoorScan5
import Derived.Defers
import Derived.Recover
import Derived.Laws.Pointers
namespace Go.Proofs.YtgabjiamabbheaaGreatDoor
open Go.RowKit Go.Lib
set_option maxRecDepth 20000 in
set_option maxHeartbeats 1000000 in
theorem faultYes (c b : Int) (w : World) :
    Calls Tryz.prog 49 #[.iface 75 (.agg #[.int .i64 c, .int .i64 b])] w fun e w' => e = .returned (.tuple #[.agg #[.int .i64 c, .int .i64 b], .bool true]) ∧ Below w.heap.size w w' := by
  have hta : ∀ w : World, (Instr.typeAssert (.iface 75 (.agg #[.int .i64 c, .int .i64 b])) 20 75 true).run Tryz.prog w = .ok (.tuple #[.agg #[.int .i64 c, .int .i64 b], .bool true]) w := fun w => by kernel_rfl
  go_enter Tryz.func49, Tryz.ntmps49
  go_wp2
  refine bodyPost_ret (v := .tuple #[.agg #[.int .i64 c, .int .i64 b], .bool true]) (by simp [results, Tryz.results49, go_sem]) rfl ⟨rfl, ?_⟩
  exact ((Below.refl _ _).alloc (Nat.le_refl _) _).alloc (by simp) _
set_option maxRecDepth 20000 in
set_option maxHeartbeats 1000000 in
theorem faultNo (w : World) :
    Calls Tryz.prog 49 #[.nilIface] w fun e w' => e = .returned (.tuple #[.agg #[.int .i64 0, .int .i64 0], .bool false]) ∧ Below w.heap.size w w' := by
  have hta : ∀ w : World, (Instr.typeAssert .nilIface 20 75 true).run Tryz.prog w = .ok (.tuple #[.agg #[.int .i64 0, .int .i64 0], .bool false]) w := fun w => by kernel_rfl
  go_enter Tryz.func49, Tryz.ntmps49
  go_wp2
  refine bodyPost_ret (v := .tuple #[.agg #[.int .i64 0, .int .i64 0], .bool false]) (by simp [results, Tryz.results49, go_sem]) rfl ⟨rfl, ?_⟩
  exact ((Below.refl _ _).alloc (Nat.le_refl _) _).alloc (by simp) _
abbrev hd0 : Obj := .cells #[.int .i64 0, .int .i64 0, .slice none 0 0, .int .i64 0] 39
set_option maxRecDepth 20000 in
set_option maxHeartbeats 1000000 in
theorem catchNo (p : Nat) (w : World) :
    CallsD Tryz.prog 48 #[.pointer (some ⟨p, 0, none⟩)] .returning w fun e u' w' => e = .returned (.tuple #[]) ∧ u' = .returning ∧ Below w.heap.size w w' := by
  refine callsD_of_wpS Tryz.func48 rfl fun c₀ cs hu => ?_
  apply wpS_seq
  apply wpS_region
  simp [wpOpsS, go_sem, recoverD, hu, Tryz.ntmps48, Exit.thenS]
  refine (faultNo w).mono ?_
  rintro e w1 ⟨rfl, hb1⟩
  simp [go_sem, Array.replicate]
  refine wpS_of_wp ?_
  go_wp2
  refine ⟨rfl, .returning, ?_, .tuple #[], by simp [results, Tryz.results48, go_sem], rfl, rfl, hb1.alloc hb1.size _⟩
  cases c₀
  simp_all
set_option maxRecDepth 20000 in
set_option maxHeartbeats 1000000 in
theorem catchYes (p : Nat) (c b : Int) (w : World) (h : w.heap[p]? = some hd0) :
    CallsD Tryz.prog 48 #[.pointer (some ⟨p, 0, none⟩)] (.panicking [{ v := .iface 75 (.agg #[.int .i64 c, .int .i64 b]), recovered := false }]) w fun e u' w' => e = .returned (.tuple #[]) ∧ u' = .panicking [{ v := .iface 75 (.agg #[.int .i64 c, .int .i64 b]), recovered := true }] ∧
      w'.heap[p]? = some (.cells #[.int .i64 c, .int .i64 b, .slice none 0 0, .int .i64 0] 39) ∧ w.grownBy w' (some p) := by
  refine callsD_of_wpS Tryz.func48 rfl fun c₀ cs hu => ?_
  apply wpS_seq
  apply wpS_region
  simp [wpOpsS, go_sem, recoverD, hu, Tryz.ntmps48, Exit.thenS]
  refine (faultYes c b w).mono ?_
  rintro e w1 ⟨rfl, hb1⟩
  simp [go_sem, Array.replicate]
  have hp : p < w.heap.size := by
    by_cases hg : p < w.heap.size
    · exact hg
    · rw [Array.getElem?_eq_none (by omega)] at h; cases h
  have hbA : Below w.heap.size w (w1.alloc (.cells #[.int .i64 c, .int .i64 b] 75)) := hb1.alloc hb1.size _
  have hr : (w1.alloc (.cells #[.int .i64 c, .int .i64 b] 75)).heap[p]? = some hd0 := (hbA.block p hp).trans h
  obtain ⟨⟨q0, q1, q2, q3⟩, z0, z1, z2, z3⟩ := res_cells hr
  have Hr := (show Hid _ from hr)
  clear h hr hp
  refine wpS_of_wp ?_
  go_wp2
  refine ⟨rfl, _, ?_, .tuple #[], by simp [results, Tryz.results48, go_sem], rfl, rfl, ?_, ?_⟩
  · rfl
  · have := Hr.out
    simp [World.setCell, Array.getElem?_modify, this]
  · exact grown_trans (grown_trans (grown_trans (grown_trans (grown_below hbA) (grown_set _ _ _ _)) (grown_set _ _ _ _)) (grown_set _ _ _ _)) (grown_set _ _ _ _)
set_option maxRecDepth 20000 in
theorem alloc_last (w : World) (o : Obj) : (w.alloc o).heap[w.heap.size]? = some o := by simp only [World.alloc, Array.getElem?_push_size]
set_option maxRecDepth 20000 in
theorem grown_to {w w' : World} {g B : Nat} (h : w.grownBy w' (some g)) (hB : B ≤ g) (hw : B ≤ w.heap.size) : Below B w w' :=
  ⟨h.os, h.tape, h.output, h.size, fun k hk => h.block k (by omega) (by intro e; have := Option.some.inj e; omega)⟩
set_option maxRecDepth 20000 in
theorem OwnF.base {B B' : Nat} {v : Value} {F : List Fl} {w : World} (h : OwnF B v F w) (hB : B' ≤ B) : OwnF B' v F w := by
  obtain ⟨h1, h2⟩ := h
  refine ⟨h1, ?_⟩
  rcases h2 with h2 | ⟨k, cap, cur, e, hk, r⟩
  · exact .inl h2
  · exact .inr ⟨k, cap, cur, e, by omega, r⟩
set_option maxRecDepth 20000 in
set_option maxHeartbeats 4000000 in
theorem implReadHead (s : ByteArray) (w : World) (hs : s.size ≤ 100000) :
    Calls Tryz.prog 21 #[.string s] w fun e w' => ∃ v, e = .returned (.agg #[.int .i64 (Pl.readHead s.data.toList).code, .int .i64 (Pl.readHead s.data.toList).at_, v, .int .i64 (Pl.readHead s.data.toList).body]) ∧
      OwnF w.heap.size v (Pl.readHead s.data.toList).fields w' ∧ Below w.heap.size w w' := by
  have hmf : ∀ (fn : Fn) (first cap : Array Value) (w : World), (Instr.makeFunc fn first cap).run Tryz.prog w = .ok (.func fn first cap) w := fun _ _ _ _ => rfl
  have hT := fun w => implTooLong s w (by omega)
  simp only [decide_eq_false (show ¬ (100000 : Int) < (s.size : Int) by omega)] at hT
  have hsc : Sc ((w.alloc hd0).alloc (.cells #[.string s, .int .i64 0, .int .i64 0] 79)) (w.heap.size + 1) s 0 0 := ⟨by
    have h1 := alloc_last (w.alloc hd0) (.cells #[.string s, .int .i64 0, .int .i64 0] 79)
    rw [show (w.alloc hd0).heap.size = w.heap.size + 1 from by simp] at h1
    exact h1⟩
  have hF := scFields (w.heap.size + 1) s 0 _ hs hsc
  obtain ⟨R, hR⟩ : ∃ R, Pl.readHead s.data.toList = R := ⟨_, rfl⟩
  rw [hR] at hF ⊢
  have HF := (show Hid (Calls Tryz.prog 50 #[scp (w.heap.size + 1)] ((w.alloc hd0).alloc (.cells #[.string s, .int .i64 0, .int .i64 0] 79)) fun e w' => FPost s R ((w.alloc hd0).alloc (.cells #[.string s, .int .i64 0, .int .i64 0] 79)) (w.heap.size + 1) e w') from hF)
  clear hsc hF hR
  go_enter_defers Tryz.func21, Tryz.ntmps21
  go_wp2_with fail
  refine (hT _).mono ?_
  rintro e w1 ⟨rfl, rfl⟩
  go_wp2_with fail
  refine Calls.mono HF.out ?_
  rintro e w3 ⟨g3, h3⟩
  have hz : ((w.alloc hd0).alloc (.cells #[.string s, .int .i64 0, .int .i64 0] 79)).heap.size = w.heap.size + 2 := by simp
  have hp0 : ((w.alloc hd0).alloc (.cells #[.string s, .int .i64 0, .int .i64 0] 79)).heap[w.heap.size]? = some hd0 := (Below.heap_alloc (w.alloc hd0) _ w.heap.size (by simp)).trans (alloc_last w hd0)
  have hr : w3.heap[w.heap.size]? = some hd0 := (g3.block w.heap.size (by omega) (by intro e; have := Option.some.inj e; omega)).trans hp0
  have hbw : Below w.heap.size w w3 := (((Below.refl w.heap.size w).alloc (Nat.le_refl _) hd0).alloc (by simp) (.cells #[.string s, .int .i64 0, .int .i64 0] 79)).trans (grown_to g3 (by omega) (by omega))
  have hsz3 : w.heap.size + 2 ≤ w3.heap.size := by have := g3.size; omega
  clear hp0 g3
  rcases h3 with ⟨hc, ha, v, b', rfl, hown, hsc3⟩ | ⟨hf, hbd, rfl⟩
  · rw [hz] at hown
    obtain ⟨o, cap, rfl⟩ := hown.shape
    obtain ⟨⟨q0, q1, q2, q3⟩, z0, z1, z2, z3⟩ := res_cells hr
    have c1 := hsc3.c1
    have Hr := (show Hid _ from hr)
    have Ho := (show Hid (OwnF (w.heap.size + 2) (.slice o R.fields.length cap) R.fields w3) from hown)
    have Hb := (show Hid _ from hbw)
    clear hr hown hbw hsc3
    go_wp2
    refine leaves_cons (f := 48) (args := #[.pointer (some ⟨w.heap.size, 0, none⟩)]) (by simp) (by simp [go_sem]) ?_
    refine (catchNo w.heap.size _).mono ?_
    rintro e u' w'' ⟨rfl, rfl, hb⟩
    have hb : Below ((((w3.setCell ⟨w.heap.size, 0, none⟩ (.int .i64 0)).setCell ⟨w.heap.size, 1, none⟩ (.int .i64 0)).setCell ⟨w.heap.size, 2, none⟩ (.slice o R.fields.length cap)).setCell ⟨w.heap.size, 3, none⟩ (.int .i64 R.body)).heap.size ((((w3.setCell ⟨w.heap.size, 0, none⟩ (.int .i64 0)).setCell ⟨w.heap.size, 1, none⟩ (.int .i64 0)).setCell ⟨w.heap.size, 2, none⟩ (.slice o R.fields.length cap)).setCell ⟨w.heap.size, 3, none⟩ (.int .i64 R.body)) w'' := hb
    have h4 : ((((w3.setCell ⟨w.heap.size, 0, none⟩ (.int .i64 0)).setCell ⟨w.heap.size, 1, none⟩ (.int .i64 0)).setCell ⟨w.heap.size, 2, none⟩ (.slice o R.fields.length cap)).setCell ⟨w.heap.size, 3, none⟩ (.int .i64 R.body)).heap[w.heap.size]? = some (.cells #[.int .i64 0, .int .i64 0, .slice o R.fields.length cap, .int .i64 R.body] 39) := by
      have := Hr.out
      simp [World.setCell, Array.getElem?_modify, this]
    have g4 : w3.grownBy ((((w3.setCell ⟨w.heap.size, 0, none⟩ (.int .i64 0)).setCell ⟨w.heap.size, 1, none⟩ (.int .i64 0)).setCell ⟨w.heap.size, 2, none⟩ (.slice o R.fields.length cap)).setCell ⟨w.heap.size, 3, none⟩ (.int .i64 R.body)) (some w.heap.size) := grown_trans (grown_trans (grown_trans (grown_set _ _ _ _) (grown_set _ _ _ _)) (grown_set _ _ _ _)) (grown_set _ _ _ _)
    generalize ((((w3.setCell ⟨w.heap.size, 0, none⟩ (.int .i64 0)).setCell ⟨w.heap.size, 1, none⟩ (.int .i64 0)).setCell ⟨w.heap.size, 2, none⟩ (.slice o R.fields.length cap)).setCell ⟨w.heap.size, 3, none⟩ (.int .i64 R.body)) = w4 at *
    have hlt4 : w.heap.size < w4.heap.size := by have := g4.size; omega
    have h5 := (hb.block w.heap.size hlt4).trans h4
    clear q0 q1 q2 q3 z0 z1 z2 z3 c1 h4
    obtain ⟨⟨q0, q1, q2, q3⟩, z0, z1, z2, z3⟩ := res_cells h5
    have O5 : OwnF w.heap.size (.slice o R.fields.length cap) R.fields w'' := OwnF.grown (g := w.heap.size) (OwnF.grown (OwnF.base Ho.out (Nat.le_succ _)) g4 (Nat.lt_succ_self _)) (grown_below hb) (Nat.lt_succ_self _) |>.base (Nat.le_succ _)
    have B5 : Below w.heap.size w w'' := (Hb.out.trans (grown_to g4 (Nat.le_refl _) (by omega))).trans (hb.mono (by omega))
    have H5 := (show Hid (OwnF w.heap.size (.slice o R.fields.length cap) R.fields w'') from O5)
    have K5 := (show Hid _ from B5)
    clear O5 B5 hb g4 h5 Ho Hb Hr
    simp [Leaves, settle, results, Tryz.results21, go_sem, q0, q1, q2, q3]
    refine ⟨_, ⟨by rw [hc]; rfl, by rw [ha]; rfl, rfl⟩, H5.out, K5.out⟩
  · have Hb := (show Hid _ from hbw)
    have hy := catchYes w.heap.size R.code R.at_ w3 hr
    refine leaves_cons (f := 48) (args := #[.pointer (some ⟨w.heap.size, 0, none⟩)]) (by simp) (by simp [go_sem]) ?_
    refine hy.mono ?_
    rintro e u' w'' ⟨rfl, rfl, h4, g4⟩
    obtain ⟨⟨q0, q1, q2, q3⟩, z0, z1, z2, z3⟩ := res_cells h4
    have hbz := (show Hid _ from Hb.out.trans (grown_to g4 (Nat.le_refl _) (by omega)))
    clear g4 h4 hy hr hbw
    simp [Leaves, settle, results, Tryz.results21, go_sem, q0, q1, q2, q3]
    exact ⟨_, ⟨rfl, by rw [hbd]; rfl⟩, by rw [hf]; exact OwnF.nil _ _, hbz.out⟩
end Go.Proofs.YtgabjiamabbheaaGreatDoor
