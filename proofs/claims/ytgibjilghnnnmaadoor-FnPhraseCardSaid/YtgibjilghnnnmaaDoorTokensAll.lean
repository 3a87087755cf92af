
/- The walk of the program's Tokens, where no fault is met. -/
import Derived.Test.YtgibjilghnnnmaaDoorTokens
import Derived.Defers
import Derived.Recover
import Derived.Laws.Pointers
namespace Go.Proofs.YtgibjilghnnnmaaDoor
open Go.RowKit Go.Lib
set_option maxHeartbeats 1000000 in
theorem faultNo (w : World) :
    Calls Tryd.prog 22 #[.nilIface] w fun e w' => e = .returned (.tuple #[.agg #[.int .i64 0, .int .i64 0], .bool false]) ∧ Below w.heap.size w w' := by
  have hta : ∀ w : World, (Instr.typeAssert .nilIface 20 44 true).run Tryd.prog w = .ok (.tuple #[.agg #[.int .i64 0, .int .i64 0], .bool false]) w := fun w => by kernel_rfl
  go_enter Tryd.func22, Tryd.ntmps22
  go_wp2
  refine bodyPost_ret (v := .tuple #[.agg #[.int .i64 0, .int .i64 0], .bool false]) (by simp [results, Tryd.results22, go_sem]) rfl ⟨rfl, ?_⟩
  exact ((Below.refl _ _).alloc (Nat.le_refl _) _).alloc (by simp) _
set_option maxHeartbeats 1000000 in
theorem catchNoT (p : Nat) (w : World) :
    CallsD Tryd.prog 21 #[.pointer (some ⟨p, 0, none⟩)] .returning w fun e u' w' => e = .returned (.tuple #[]) ∧ u' = .returning ∧ Below w.heap.size w w' := by
  refine callsD_of_wpS Tryd.func21 rfl fun c₀ cs hu => ?_
  apply wpS_seq
  apply wpS_region
  simp [wpOpsS, go_sem, recoverD, hu, Tryd.ntmps21, Exit.thenS]
  refine (faultNo w).mono ?_
  rintro e w1 ⟨rfl, hb1⟩
  simp [go_sem, Array.replicate]
  refine wpS_of_wp ?_
  go_wp2
  refine ⟨rfl, .returning, ?_, .tuple #[], by simp [results, Tryd.results21, go_sem], rfl, rfl, hb1.alloc hb1.size _⟩
  cases c₀
  simp_all
abbrev tl0 : Obj := .cells #[.int .i64 0, .int .i64 0, .slice none 0 0] 27
theorem alloc_last (w : World) (o : Obj) : (w.alloc o).heap[w.heap.size]? = some o := by simp only [World.alloc, Array.getElem?_push_size]
theorem grown_to {w w' : World} {g B : Nat} (h : w.grownBy w' (some g)) (hB : B ≤ g) (hw : B ≤ w.heap.size) : Below B w w' :=
  ⟨h.os, h.tape, h.output, h.size, fun k hk => h.block k (by omega) (by intro e; have := Option.some.inj e; omega)⟩
theorem OwnT.base {B B' : Nat} {v : Value} {F : List Tk} {w : World} (h : OwnT B v F w) (hB : B' ≤ B) : OwnT B' v F w := by
  obtain ⟨h1, h2⟩ := h
  refine ⟨h1, ?_⟩
  rcases h2 with h2 | ⟨k, cap, cur, e, hk, r⟩
  · exact .inl h2
  · exact .inr ⟨k, cap, cur, e, by omega, r⟩
theorem OwnT.shape {B : Nat} {v : Value} {F : List Tk} {w : World} (h : OwnT B v F w) : ∃ o cap, v = .slice o F.length cap := by
  rcases h.form with ⟨rfl, rfl⟩ | ⟨g, cap, rfl⟩
  · exact ⟨none, 0, rfl⟩
  · exact ⟨_, _, rfl⟩
theorem tl_cells {w : World} {g : Nat} {a b : Int} {v : Value} {t : TypeId} {z : Nat × Nat} (h : w.heap[g]? = some (.cells #[.int .i64 a, .int .i64 b, v] t z)) :
    w.cell? ⟨g, 0, none⟩ = some (.int .i64 a) ∧ w.cell? ⟨g, 1, none⟩ = some (.int .i64 b) ∧ w.cell? ⟨g, 2, none⟩ = some v := by
  refine ⟨?_, ?_, ?_⟩ <;> simp [World.cell?, h]
set_option maxHeartbeats 4000000 in
theorem implTokens (s : ByteArray) (T : List Tk) (w : World) (hs : s.size ≤ 4000) (hcl : Clean s) (hT : Toks s 0 T) :
    Calls Tryd.prog 7 #[.string s] w fun e w' => ∃ v, e = .returned (.agg #[.int .i64 0, .int .i64 0, v]) ∧ OwnT w.heap.size v T w' ∧ Below w.heap.size w w' := by
  have hmf : ∀ (fn : Fn) (first cap : Array Value) (w : World), (Instr.makeFunc fn first cap).run Tryd.prog w = .ok (.func fn first cap) w := fun _ _ _ _ => rfl
  have hL := fun w => implTooLong s w (by omega)
  simp only [decide_eq_false (show ¬ (100000 : Int) < (s.size : Int) by omega)] at hL
  have hsc : Sc ((w.alloc tl0).alloc (.cells #[.string s, .int .i64 0, .int .i64 0] 48)) (w.heap.size + 1) s 0 0 := ⟨by
    have h1 := alloc_last (w.alloc tl0) (.cells #[.string s, .int .i64 0, .int .i64 0] 48)
    rw [show (w.alloc tl0).heap.size = w.heap.size + 1 from by simp] at h1
    exact h1⟩
  have hF := scTokens (w.heap.size + 1) s T 0 _ hs hcl hsc hT
  have HF := (show Hid _ from hF)
  clear hsc hF hT
  go_enter_defers Tryd.func7, Tryd.ntmps7
  go_wp2_with fail
  refine (hL _).mono ?_
  rintro e w1 ⟨rfl, rfl⟩
  go_wp2_with fail
  refine Calls.mono HF.out ?_
  rintro e w3 ⟨v, rfl, hown, g3⟩
  have hz : ((w.alloc tl0).alloc (.cells #[.string s, .int .i64 0, .int .i64 0] 48)).heap.size = w.heap.size + 2 := by simp
  have hp0 : ((w.alloc tl0).alloc (.cells #[.string s, .int .i64 0, .int .i64 0] 48)).heap[w.heap.size]? = some tl0 := (Below.heap_alloc (w.alloc tl0) _ w.heap.size (by simp)).trans (alloc_last w tl0)
  have hr : w3.heap[w.heap.size]? = some tl0 := (g3.block w.heap.size (by omega) (by intro e; have := Option.some.inj e; omega)).trans hp0
  have hbw : Below w.heap.size w w3 := (((Below.refl w.heap.size w).alloc (Nat.le_refl _) tl0).alloc (by simp) (.cells #[.string s, .int .i64 0, .int .i64 0] 48)).trans (grown_to g3 (by omega) (by omega))
  have hsz3 : w.heap.size + 2 ≤ w3.heap.size := by have := g3.size; omega
  clear hp0 g3
  rw [hz] at hown
  obtain ⟨o, cap, rfl⟩ := hown.shape
  have hr' : w3.heap[w.heap.size]? = some (.cells #[.int .i64 0, .int .i64 0, .slice none 0 0] 27 (0, 0)) := hr
  have Ho := (show Hid (OwnT (w.heap.size + 2) (.slice o T.length cap) T w3) from hown)
  have Hb := (show Hid _ from hbw)
  clear hr hown hbw HF
  go_wp2_with (first | (refine wpL_store_row rfl 27 _ _ rfl w.heap.size #[.int .i64 0, .int .i64 0, .slice o T.length cap] rfl rfl 27 _ hr' (by kernel_rfl) rfl (by simp [Value.oneCell']) ?_) | go_in)
  refine leaves_cons (f := 21) (args := #[.pointer (some ⟨w.heap.size, 0, none⟩)]) (by simp) (by simp [go_sem]) ?_
  refine (catchNoT w.heap.size _).mono ?_
  rintro e u' w'' ⟨rfl, rfl, hb⟩
  have h4 : (w3.setRow w.heap.size #[.int .i64 0, .int .i64 0, .slice o T.length cap]).heap[w.heap.size]? = some (.cells #[.int .i64 0, .int .i64 0, .slice o T.length cap] 27 (0, 0)) := setRow_heap _ _ _ _ _ _ hr'
  have g4 : w3.grownBy (w3.setRow w.heap.size #[.int .i64 0, .int .i64 0, .slice o T.length cap]) (some w.heap.size) := grown_setRow _ _ _
  generalize w3.setRow w.heap.size #[.int .i64 0, .int .i64 0, .slice o T.length cap] = w4 at *
  have hlt4 : w.heap.size < w4.heap.size := by have := g4.size; omega
  have h5 := (hb.block w.heap.size hlt4).trans h4
  obtain ⟨q0, q1, q2⟩ := tl_cells h5
  have O5 : OwnT w.heap.size (.slice o T.length cap) T w'' := ((Ho.out.gr g4 (by omega)).gr (g := w.heap.size) (grown_below hb) (by omega)).base (by omega)
  have B5 : Below w.heap.size w w'' := (Hb.out.trans (grown_to g4 (Nat.le_refl _) (by omega))).trans (hb.mono (by omega))
  have H5 := (show Hid _ from O5)
  have K5 := (show Hid _ from B5)
  clear O5 B5 hb g4 h5 Ho Hb hr' h4
  simp [Leaves, settle, results, Tryd.results7, go_sem, q0, q1, q2]
  exact ⟨H5.out, K5.out⟩
end Go.Proofs.YtgibjilghnnnmaaDoor
