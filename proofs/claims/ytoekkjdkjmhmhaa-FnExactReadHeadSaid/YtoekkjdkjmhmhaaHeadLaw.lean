
/- The law on ReadHead: its helpers over heads. -/
import Derived.Test.YtoekkjdkjmhmhaaMarkF
namespace Go.Proofs.Ytoekkjdkjmhmhaa
open Go.RowKit Go.Lib
def toBA (F : List Fl) : List Fd := F.map fun f => (⟨f.1.toArray⟩, ⟨f.2.toArray⟩)
theorem RowV.fld {g : Nat} {F : List Fl} {w : World} (h : RowV g (cellsF F) w) : Fld w.heap.size w (some ⟨g, 0, none⟩) (toBA F) := by
  intro i hi
  have hi' : i < F.length := by simpa [toBA] using hi
  obtain ⟨d0, d1⟩ := cellsF_get F i hi'
  have hl : (cellsF F).length = F.length * 2 := cellsF_len F
  have c0 := h.cell (i * 2) (by omega)
  have c1 := h.cell (i * 2 + 1) (by omega)
  rw [List.getElem?_eq_getElem (by omega)] at d0 d1
  rw [Option.some.inj d0] at c0
  rw [Option.some.inj d1] at c1
  refine ⟨_, rfl, h.lt, ?_, ?_⟩
  · rw [add_off, c0]; simp [toBA, txt]
  · rw [add_off, c1]; simp [toBA, txt]
theorem lawEqNil (o1 o2 : Option Addr) (c1 c2 : Nat) (w : World) : Calls Try.prog 18 #[.slice o1 0 c1, .slice o2 0 c2] w fun e w' => e = .returned (.bool true) ∧ Below w.heap.size w w' := by
  go_enter Try.func18, Try.ntmps18
  go_wp2
  go_loopw [5] (fun t wr => t = .int .i64 0 ∧ wr = w) (fun _ _ => 0)
  case atStart => exact ⟨rfl, rfl⟩
  case round =>
    obtain ⟨rfl, rfl⟩ := hrel
    go_wp2
    go_ret
    exact ⟨rfl, Below.refl _ _⟩
theorem lawMarkNil (o1 : Option Addr) (c1 : Nat) (w : World) : Calls Try.prog 19 #[.slice o1 0 c1, .int .i64 1] w fun e w' => e = .returned (.int .i64 1) ∧ w' = w := by
  go_enter Try.func19, Try.ntmps19
  go_wp2
  go_loopw [1, 5] (fun u t wr => u = .int .i64 1 ∧ t = .int .i64 0 ∧ wr = w) (fun _ _ _ => 0)
  case atStart => exact ⟨rfl, rfl, rfl⟩
  case round =>
    obtain ⟨rfl, rfl, rfl⟩ := hrel
    go_wp2
    go_ret
    exact ⟨rfl, rfl⟩
theorem lawHeldNil (o1 : Option Addr) (c1 : Nat) (w : World) : Calls Try.prog 20 #[.slice o1 0 c1, .int .i64 1] w fun e w' => e = .returned (.int .i64 1) ∧ w' = w := by
  go_enter Try.func20, Try.ntmps20
  go_wp2
  go_loopw [1, 5] (fun u t wr => u = .int .i64 1 ∧ t = .int .i64 0 ∧ wr = w) (fun _ _ _ => 0)
  case atStart => exact ⟨rfl, rfl, rfl⟩
  case round =>
    obtain ⟨rfl, rfl, rfl⟩ := hrel
    go_wp2
    go_ret
    exact ⟨rfl, rfl⟩
/-- A list whose fields bear their marks. -/
def MarkedV (v : Value) (n : Nat) (w : World) : Prop := n = 0 ∨ ∃ g cap, v = .slice (some ⟨g, 0, none⟩) n cap ∧ RowV g (cellsF (Pl.marksF n)) w
theorem MarkedV.below {v : Value} {n : Nat} {w w' : World} (h : MarkedV v n w) (hb : Below w.heap.size w w') : MarkedV v n w' := by
  rcases h with h | ⟨g, cap, e, r⟩
  · exact .inl h
  · exact .inr ⟨g, cap, e, r.below hb⟩
theorem hdEq {B1 B2 : Nat} {o1 o2 : Option Addr} {c1 c2 : Nat} {F : List Fl} {w : World} (h1 : OwnF B1 (.slice o1 F.length c1) F w) (h2 : OwnF B2 (.slice o2 F.length c2) F w) (hF : F.length ≤ 200) :
    Calls Try.prog 18 #[.slice o1 F.length c1, .slice o2 F.length c2] w fun e w' => e = .returned (.bool true) ∧ Below w.heap.size w w' := by
  by_cases hn : F = []
  · subst hn
    exact lawEqNil o1 o2 c1 c2 w
  · obtain ⟨g1, k1, e1, -, r1⟩ := h1.row hn
    obtain ⟨g2, k2, e2, -, r2⟩ := h2.row hn
    have hl : (toBA F).length = F.length := by simp [toBA]
    have := lawEqFieldS ⟨g1, 0, none⟩ ⟨g2, 0, none⟩ (toBA F) k1 k2 w r1.fld r2.fld (by omega)
    rw [hl, ← e1, ← e2] at this
    exact this
theorem hdMark {B : Nat} {o : Option Addr} {c : Nat} {F : List Fl} {w : World} (h : OwnF B (.slice o F.length c) F w) (hF : F.length ≤ 200) :
    Calls Try.prog 19 #[.slice o F.length c, .int .i64 1] w fun e w' => e = .returned (.int .i64 ((2 * F.length + 1 : Nat) : Int)) ∧ MarkedV (.slice o F.length c) F.length w' ∧ w.grownBy w' (Value.slice o F.length c).ownBlock := by
  by_cases hn : F = []
  · subst hn
    refine (lawMarkNil o c w).mono ?_
    rintro e w' ⟨rfl, rfl⟩
    exact ⟨rfl, .inl rfl, grown_refl _ _⟩
  · obtain ⟨g1, k1, e1, -, r1⟩ := h.row hn
    rw [e1]
    refine (lawMark g1 k1 F w hF r1).mono ?_
    rintro e w' ⟨rfl, r, gr⟩
    exact ⟨rfl, .inr ⟨g1, k1, rfl, r⟩, gr⟩
theorem hdHeld {o : Option Addr} {c n : Nat} {w : World} (h : MarkedV (.slice o n c) n w) (hF : n ≤ 200) :
    Calls Try.prog 20 #[.slice o n c, .int .i64 1] w fun e w' => e = .returned (.int .i64 ((2 * n + 1 : Nat) : Int)) ∧ Below w.heap.size w w' := by
  rcases h with rfl | ⟨g, cap, e, r⟩
  · refine (lawHeldNil o c w).mono ?_
    rintro e w' ⟨rfl, rfl⟩
    exact ⟨rfl, Below.refl _ _⟩
  · rw [e]
    exact lawHeld g cap n w hF r
theorem OwnF.keep {B : Nat} {v : Value} {F : List Fl} {w w' : World} {r : Option Nat} (h : OwnF B v F w) (hg : w.grownBy w' r) (hr : ∀ g, v.ownBlock = some g → r ≠ some g) : OwnF B v F w' := by
  obtain ⟨h1, h2⟩ := h
  refine ⟨h1, ?_⟩
  rcases h2 with h2 | ⟨k, cap, cur, e, hk, hc, q⟩
  · exact .inl h2
  · refine .inr ⟨k, cap, cur, e, hk, ?_, q⟩
    have hlt : k < w.heap.size := by
      by_cases h : k < w.heap.size
      · exact h
      · rw [Array.getElem?_eq_none (by omega)] at hc; cases hc
    rw [hg.block k hlt (fun e' => hr k (by rw [e]; rfl) e'.symm)]
    exact hc
theorem OwnF.low {B : Nat} {v : Value} {F : List Fl} {w w' : World} (h : OwnF B v F w) (hb : Below w.heap.size w w') : OwnF B v F w' := h.keep (grown_below (r := none) hb) (fun g _ e => by cases e)
abbrev hdv (R : HR) (o : Option Addr) (c : Nat) : Value := .agg #[.int .i64 R.code, .int .i64 R.at_, .slice o R.fields.length c, .int .i64 R.body]
abbrev hdo (R : HR) (o : Option Addr) (c : Nat) : Obj := .cells #[.int .i64 R.code, .int .i64 R.at_, .slice o R.fields.length c, .int .i64 R.body] 24
set_option maxHeartbeats 1000000 in
theorem lawEqHead {B1 B2 : Nat} (R : HR) (o1 o2 : Option Addr) (c1 c2 : Nat) (w : World) (h1 : OwnF B1 (.slice o1 R.fields.length c1) R.fields w) (h2 : OwnF B2 (.slice o2 R.fields.length c2) R.fields w) (hF : R.fields.length ≤ 200) :
    Calls Try.prog 6 #[hdv R o1 c1, hdv R o2 c2] w fun e w' => e = .returned (.bool true) ∧ Below w.heap.size w w' := by
  have hb : Below w.heap.size w ((w.alloc (hdo R o1 c1)).alloc (hdo R o2 c2)) := ((Below.refl _ _).alloc (Nat.le_refl _) _).alloc (by simp) _
  have ht : Hid (∀ w3, Below ((w.alloc (hdo R o1 c1)).alloc (hdo R o2 c2)).heap.size ((w.alloc (hdo R o1 c1)).alloc (hdo R o2 c2)) w3 → w3.cell? ⟨w.heap.size, 3, none⟩ = some (.int .i64 R.body) ∧ w3.cell? ⟨w.heap.size + 1, 3, none⟩ = some (.int .i64 R.body)) := show ∀ w3, _ from by
    intro w3 h3
    refine ⟨(h3.cell (p := ⟨w.heap.size, 3, none⟩) (by simp; omega)).trans ?_, (h3.cell (p := ⟨w.heap.size + 1, 3, none⟩) (by simp)).trans ?_⟩
    · simp
    · rw [show w.heap.size + 1 = (w.alloc (hdo R o1 c1)).heap.size from by simp]
      simp
  have HE := (show Hid _ from hdEq (h1.low hb) (h2.low hb) hF)
  have Hb := (show Hid _ from hb)
  clear h1 h2 hb
  go_enter Try.func6, Try.ntmps6
  go_wp2_with fail
  refine Calls.mono HE.out ?_
  rintro e w3 ⟨rfl, hb3⟩
  obtain ⟨q1, q2⟩ := ht.out w3 hb3
  go_wp2
  go_ret
  exact ⟨rfl, Hb.out.trans (hb3.mono Hb.out.size)⟩
set_option maxHeartbeats 1000000 in
theorem lawMarkHead {B : Nat} (R : HR) (o : Option Addr) (c : Nat) (w : World) (h : OwnF B (.slice o R.fields.length c) R.fields w) (hF : R.fields.length ≤ 200) :
    Calls Try.prog 7 #[hdv R o c, .int .i64 1] w fun e w' => e = .returned (.int .i64 ((2 * R.fields.length + 1 : Nat) : Int)) ∧ MarkedV (.slice o R.fields.length c) R.fields.length w' ∧ w.grownBy w' (Value.slice o R.fields.length c).ownBlock := by
  have hb : Below w.heap.size w (w.alloc (hdo R o c)) := (Below.refl _ _).alloc (Nat.le_refl _) _
  have HM := (show Hid _ from hdMark (h.low hb) hF)
  have Hb := (show Hid _ from hb)
  clear h hb
  go_enter Try.func7, Try.ntmps7
  go_wp2_with fail
  refine Calls.mono HM.out ?_
  rintro e w3 ⟨rfl, m3, g3⟩
  have M3 := (show Hid (MarkedV (.slice o R.fields.length c) R.fields.length w3) from m3)
  have G3 := (show Hid _ from grown_trans (grown_below Hb.out) g3)
  clear m3 g3
  go_wp2
  go_ret
  exact ⟨rfl, M3.out, G3.out⟩
set_option maxHeartbeats 1000000 in
theorem lawHeldHead (R : HR) (o : Option Addr) (c : Nat) (w : World) (h : MarkedV (.slice o R.fields.length c) R.fields.length w) (hF : R.fields.length ≤ 200) :
    Calls Try.prog 8 #[hdv R o c, .int .i64 1] w fun e w' => e = .returned (.int .i64 ((2 * R.fields.length + 1 : Nat) : Int)) ∧ Below w.heap.size w w' := by
  have hb : Below w.heap.size w (w.alloc (hdo R o c)) := (Below.refl _ _).alloc (Nat.le_refl _) _
  have HM := (show Hid _ from hdHeld (h.below hb) hF)
  have Hb := (show Hid _ from hb)
  clear h hb
  go_enter Try.func8, Try.ntmps8
  go_wp2_with fail
  refine Calls.mono HM.out ?_
  rintro e w3 ⟨rfl, hb3⟩
  go_wp2
  go_ret
  exact ⟨rfl, Hb.out.trans (hb3.mono Hb.out.size)⟩
end Go.Proofs.Ytoekkjdkjmhmhaa
