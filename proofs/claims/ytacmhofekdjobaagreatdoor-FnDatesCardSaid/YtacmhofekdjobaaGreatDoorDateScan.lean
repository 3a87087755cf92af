
/- The walk of a reader of tokens: all tokens of a text, where no fault is met. -/
import Derived.Test.YtacmhofekdjobaaGreatDoorTokensG
import Derived.Defers
import Derived.Recover
import Derived.Laws.Pointers
namespace Go.Proofs.YtacmhofekdjobaaGreatDoor
open Go.RowKit Go.Lib
set_option maxRecDepth 20000 in
theorem alloc_last (w : World) (o : Obj) : (w.alloc o).heap[w.heap.size]? = some o := by simp only [World.alloc, Array.getElem?_push_size]
set_option maxRecDepth 20000 in
theorem OwnT.base {B B' : Nat} {v : Value} {F : List Tk} {w : World} (h : OwnT B v F w) (hB : B' ≤ B) : OwnT B' v F w := by
  obtain ⟨h1, h2⟩ := h
  refine ⟨h1, ?_⟩
  rcases h2 with h2 | ⟨k, cap, cur, e, hk, r⟩
  · exact .inl h2
  · exact .inr ⟨k, cap, cur, e, by omega, r⟩
set_option maxRecDepth 20000 in
theorem OwnT.shape {B : Nat} {v : Value} {F : List Tk} {w : World} (h : OwnT B v F w) : ∃ o cap, v = .slice o F.length cap := by
  rcases h.form with ⟨rfl, rfl⟩ | ⟨g, cap, rfl⟩
  · exact ⟨none, 0, rfl⟩
  · exact ⟨_, _, rfl⟩
set_option maxRecDepth 20000 in
set_option maxHeartbeats 1000000 in
theorem faultNo (w : World) :
    Calls Tryz.prog 45 #[.nilIface] w fun e w' => e = .returned (.tuple #[.agg #[.int .i64 0, .int .i64 0], .bool false]) ∧ Below w.heap.size w w' := by
  have hta : ∀ w : World, (Instr.typeAssert .nilIface 20 64 true).run Tryz.prog w = .ok (.tuple #[.agg #[.int .i64 0, .int .i64 0], .bool false]) w := fun w => by kernel_rfl
  go_enter Tryz.func45, Tryz.ntmps45
  go_wp2
  refine bodyPost_ret (v := .tuple #[.agg #[.int .i64 0, .int .i64 0], .bool false]) (by simp [results, Tryz.results45, go_sem]) rfl ⟨rfl, ?_⟩
  exact ((Below.refl _ _).alloc (Nat.le_refl _) _).alloc (by simp) _
set_option maxRecDepth 20000 in
set_option maxHeartbeats 1000000 in
theorem catchNoS (p : Nat) (w : World) :
    CallsD Tryz.prog 44 #[.pointer (some ⟨p, 0, none⟩)] .returning w fun e u' w' => e = .returned (.tuple #[]) ∧ u' = .returning ∧ Below w.heap.size w w' := by
  refine callsD_of_wpS Tryz.func44 rfl fun c₀ cs hu => ?_
  apply wpS_seq
  apply wpS_region
  simp [wpOpsS, go_sem, recoverD, hu, Tryz.ntmps44, Exit.thenS]
  refine (faultNo w).mono ?_
  rintro e w1 ⟨rfl, hb1⟩
  simp [go_sem, Array.replicate]
  refine wpS_of_wp ?_
  go_wp2
  refine ⟨rfl, .returning, ?_, .tuple #[], by simp [results, Tryz.results44, go_sem], rfl, rfl, hb1.alloc hb1.size _⟩
  cases c₀
  simp_all
/-- A reader of a date in memory: its text, its tokens, how many are taken, whether it is ill. -/
structure Dr (w : World) (g : Nat) (s : ByteArray) (v : Value) (n : Nat) (ill : Bool) : Prop where
  ex : ∃ a b : Nat, w.heap[g]? = some (.cells #[.string s, .int .i64 a, .int .i64 b, v, .int .i64 n, .bool ill] 49)
set_option maxRecDepth 20000 in
set_option maxHeartbeats 4000000 in
theorem implScan (g : Nat) (s : ByteArray) (T : List Tk) (w : World) (hs : s.size ≤ 4000) (hcl : Clean s) (hT : Toks s 0 T) (h : w.heap[g]? = some (.cells #[.string s, .int .i64 0, .int .i64 0, .slice none 0 0, .int .i64 0, .bool false] 49)) :
    Calls Tryz.prog 23 #[scp g, .func (.func 24) #[scp g] #[]] w fun e w' => e = .returned .nilIface ∧ ∃ v, OwnT w.heap.size v T w' ∧ Dr w' g s v 0 false ∧ w.grownBy w' (some g) := by
  have hmf : ∀ (fn : Fn) (first cap : Array Value) (w : World), (Instr.makeFunc fn first cap).run Tryz.prog w = .ok (.func fn first cap) w := fun _ _ _ _ => rfl
  have hgl := hp_lt h
  obtain ⟨W, hW⟩ : ∃ W, W = w.alloc (.cells #[.nilIface] 51) := ⟨_, rfl⟩
  have hbW : Below w.heap.size w W := by rw [hW]; exact (Below.refl _ _).alloc (Nat.le_refl _) _
  have hWs : W.heap.size = w.heap.size + 1 := by rw [hW]; simp
  have hp : W.heap[w.heap.size]? = some (.cells #[.nilIface] 51) := by rw [hW]; exact alloc_last w _
  have hsc : Sc ([.slice none 0 0, .int .i64 0, .bool false], 49) W g s 0 0 := ⟨(hbW.block g hgl).trans h⟩
  have HF := (show Hid _ from scTokens g s T 0 W hs hcl hsc hT)
  clear hsc hT h
  go_enter_defers Tryz.func23, Tryz.ntmps23
  go_wp2_with fail
  rw [← hW]
  refine Calls.mono HF.out ?_
  rintro e w3 ⟨v, rfl, hown, ⟨a', b', hsc⟩, g3⟩
  clear HF
  have hp3 : w3.heap[w.heap.size]? = some (.cells #[.nilIface] 51 (0, 0)) := (g3.block w.heap.size (by omega) (by intro e; have := Option.some.inj e; omega)).trans hp
  have hB := hsc.blk
  have hne : w.heap.size ≠ g := by omega
  obtain ⟨o, cap, rfl⟩ := hown.shape
  have c3 : w3.cell? ⟨g, 3, none⟩ = some (.slice none 0 0) := by simp [World.cell?, hB]
  have f3 : w3.frozen? ⟨g, 3, none⟩ = false := by simp [World.frozen?, hB]
  have cp : w3.cell? ⟨w.heap.size, 0, none⟩ = some .nilIface := by simp [World.cell?, hp3]
  have fp : w3.frozen? ⟨w.heap.size, 0, none⟩ = false := by simp [World.frozen?, hp3]
  obtain ⟨X, hX⟩ : ∃ X, X = (w3.setCell ⟨g, 3, none⟩ (.slice o T.length cap)).setCell ⟨w.heap.size, 0, none⟩ .nilIface := ⟨_, rfl⟩
  have dX : Dr X g s (.slice o T.length cap) 0 false := ⟨a', b', by rw [hX]; simp [World.setCell, Array.getElem?_modify, hB, hne]⟩
  have pX : X.cell? ⟨w.heap.size, 0, none⟩ = some .nilIface := by rw [hX]; simp [World.cell?, World.setCell, Array.getElem?_modify, hp3, Ne.symm hne]
  have gX : w.grownBy X (some g) := by
    rw [hX]
    refine ⟨g3.os.trans hbW.os, g3.tape.trans hbW.tape, g3.output.trans hbW.output, by have := g3.size; simp [World.setCell]; omega, fun i hi hr => ?_⟩
    rw [← hbW.block i hi, ← g3.block i (by omega) hr]
    simp [World.setCell, Array.getElem?_modify, show w.heap.size ≠ i by omega, show g ≠ i from fun e => hr (by rw [e])]
  have oX : OwnT w.heap.size (.slice o T.length cap) T X := by
    rw [hX]
    have o1 := hown.gr (grown_set w3 g 3 (.slice o T.length cap)) (by omega)
    exact (o1.gr (grown_set _ w.heap.size 0 .nilIface) (by omega)).base (by omega)
  have HX := (show Hid (Dr X g s (.slice o T.length cap) 0 false ∧ w.grownBy X (some g) ∧ OwnT w.heap.size (.slice o T.length cap) T X) from ⟨dX, gX, oX⟩)
  clear hB dX gX oX hown hsc g3 hp3 hp hbW hW
  go_wp2_with fail
  rw [← hX]
  refine leaves_cons (f := 44) (args := #[.pointer (some ⟨w.heap.size, 0, none⟩)]) (by simp) (by simp [go_sem]) ?_
  refine (catchNoS w.heap.size _).mono ?_
  rintro e u' w'' ⟨rfl, rfl, hb⟩
  obtain ⟨dX, gX, oX⟩ := HX.out
  have q0 := (hb.cell (World.block_lt_of_cell? _ _ pX)).trans pX
  have K := (show Hid (∃ v, OwnT w.heap.size v T w'' ∧ Dr w'' g s v 0 false ∧ w.grownBy w'' (some g)) from ⟨_, oX.gr (grown_below (r := some g) hb) hgl, by
    obtain ⟨a, b, h⟩ := dX.ex
    exact ⟨a, b, (hb.block g (hp_lt h)).trans h⟩, grown_trans gX (grown_below hb)⟩)
  clear HX dX gX oX hb c3 f3 cp fp pX hX
  simp [Leaves, settle, results, Tryz.results23, go_sem, q0]
  exact K.out
end Go.Proofs.YtacmhofekdjobaaGreatDoor
