
/- The kids of a query's node, by its method; lists of numbers that a call has made. -/

/- slices.Equal at numbers. -/

/- The program's isOneTree, at a query's nodes. -/
import Derived.Test.YtfaeckaeaeadeaaGreatDoorSpecQSpan
import Derived.Test.YtfaeckaeaeadeaaGreatDoorTreeMore
import Derived.Test.YtfaeckaeaeadeaaGreatDoorImplRanges
import Derived.Lib.QuietBelow
import Derived.BigQuiet
import Derived.Handy
namespace Go.Proofs.YtfaeckaeaeadeaaGreatDoor
open Go.RowKit Go.Lib Go.Maps
set_option maxRecDepth 20000 in
theorem methKids (n : GQueryNode) (v4 v5 : Value) (w : World) :
    Calls Tryz.prog 135 #[GQueryNodeV n v4 v5] w fun e w' => e = .returned v5 ∧ w' = w.alloc (.cells #[.int .i64 n.kind, .string n.name, .string n.text, .int .i64 n.num, v4, v5] 38) := by
  unfold GQueryNodeV
  go_enter Tryz.func135, Tryz.ntmps135
  go_wp2
  go_ret
  exact ⟨rfl, rfl⟩
set_option maxRecDepth 20000 in
theorem methKidsB (n : GQueryNode) (v4 v5 : Value) (w : World) :
    Calls Tryz.prog 135 #[GQueryNodeV n v4 v5] w fun e w' => e = .returned v5 ∧ Below w.heap.size w w' :=
  (methKids n v4 v5 w).mono fun _ _ ⟨h1, h2⟩ => ⟨h1, by rw [h2]; exact (Below.refl _ _).alloc (Nat.le_refl _) _⟩
set_option maxRecDepth 20000 in
/-- 246: the fuel of 'method' at the seat. -/
theorem methodK (v : Value) (w : World) : (method 246 38 v "loop.example/g00013/impl.kids").run Tryz.prog w = .ok (135, v) w := by kernel_rfl
set_option maxRecDepth 20000 in
theorem entersK : ∀ (args : Array Value) (w : World), (callFunc 135 args).run Tryz.prog w = .ok (.enter 135 args) w := Go.Proofs.enters_of Tryz.func135 (by kernel_rfl) rfl
def numCells (P : List Int) : List Value := P.map (.int .i64)
/-- The slice v, whose array is among the blocks from B on, holds just the numbers P. -/
def OwnN (B : Nat) (v : Value) (P : List Int) (w : World) : Prop := w.ownsRow B 2 1 v P.length (numCells P)
set_option maxRecDepth 20000 in
theorem OwnN.made (B : Nat) (w : World) (h : B ≤ w.heap.size) : OwnN B (.slice (some ⟨w.heap.size, 0, none⟩) 0 0) [] (w.alloc (.cells #[] 2)) :=
  World.ownsRow_made w #[] 0 h (by unfold maxLen; omega) rfl
set_option maxRecDepth 20000 in
theorem OwnN.form {B : Nat} {v : Value} {P : List Int} {w : World} (h : OwnN B v P w) : ∃ o cap, v = .slice o P.length cap ∧ (∀ (j : Nat) (hj : j < P.length), ∃ g, o = some ⟨g, 0, none⟩ ∧ B ≤ g ∧ g < w.heap.size ∧ w.cell? ⟨g, j, none⟩ = some (.int .i64 P[j])) := by
  have hl := World.ownsRow.lt h
  have hh := h
  rcases h.2 with ⟨rfl, h0⟩ | ⟨g, cap, cur, rfl, hB, -, hc, -⟩
  · refine ⟨none, 0, by rw [h0], fun j hj => by omega⟩
  · refine ⟨_, cap, rfl, fun j hj => ⟨g, rfl, hB, (hl g rfl).2, ?_⟩⟩
    have := World.ownsRow.cells hh (g := g) rfl j (.int .i64 P[j]) (by simp [numCells, hj])
    rwa [add_off] at this
set_option maxRecDepth 20000 in
theorem OwnN.keep {B C : Nat} {v : Value} {P : List Int} {w w' : World} (h : OwnN B v P w) (hC : w.heap.size ≤ C) (hb : Below C w w') : OwnN B v P w' := by
  refine ⟨h.1, ?_⟩
  rcases h.2 with h | ⟨g, cap, cur, h1, h2, h3, h4⟩
  · exact .inl h
  · refine .inr ⟨g, cap, cur, h1, h2, ?_, h4⟩
    have hg : g < w.heap.size := by
      by_cases hg : g < w.heap.size
      · exact hg
      · rw [Array.getElem?_eq_none (by omega)] at h3; cases h3
    rw [hb.block g (by omega), h3]
set_option maxRecDepth 20000 in
/-- An append of one number. -/
theorem wp_appN {P : Program} {W w : World} {ops : Array Oper} {rest : List Oper} {o : Oper} {a : Act} {Q : Exit → Act → World → Prop} (hgd : o.guard = none) (s x : Operand) (t : TypeId)
    (ho : o.op = .call { callee := .builtin .append, args := #[s, x], argTypes := #[t, t] })
    (i : TypeInfo) (ht : P.underlying t = some (.slice 2)) (hi : P.info? 2 = some i) (hz : i.zero = some (.int .i64 0)) (hsize : i.size = 1) (hby : i.bytes = 8)
    (B : Nat) (v : Value) (p : List Int) (hs : a.eval s = v) (hown : OwnN B v p w) (new : Int)
    (hx : a.eval x = .slice (some ⟨w.heap.size, 0, none⟩) 1 1) (hlen : p.length ≤ 1048576) (hB : B ≤ W.heap.size) (hb : Below B W w)
    (h : ∀ v' w', OwnN B v' (p ++ [new]) w' → Below B W w' → wpList P ops Q rest (a.put o.dst v') w') : wpList P ops Q (o :: rest) a (w.alloc (.cells #[.int .i64 new] 2)) := by
  have hsz := hb.size
  refine wpList_append_own _ hgd s x t ho B 2 i (.int .i64 0) 1 8 ht hi hz hsize hby rfl (by decide) v p.length (numCells p) hs (hown.alloc _) ⟨w.heap.size, 0, none⟩ 1 1 [.int .i64 new] hx
    rfl ?_ ?_ (by unfold maxLen; omega) (by omega) (by simp; omega) ?_
  · intro j u hj
    match j, hj with
    | 0, hj => simp at hj; subst hj; simp [Addr.add]
  · intro u hu
    simp at hu
    subst hu
    rfl
  · intro v' w' h1 h2 _
    refine h v' w' ?_ ?_
    · unfold OwnN
      rw [numCells, List.map_append, List.length_append]
      exact h1
    · exact (hb.alloc (by omega) _).grown h2 (by simp; omega) (fun k hk => (World.ownsRow.lt hown k hk).1)
set_option maxRecDepth 20000 in
theorem OwnN.nil (B : Nat) (w : World) : OwnN B (.slice none 0 0) [] w := World.ownsRow_nil _ _ _ _
set_option maxRecDepth 20000 in
theorem OwnN.form' {B : Nat} {v : Value} {P : List Int} {w : World} (h : OwnN B v P w) : ∃ o cap, v = .slice o P.length cap ∧ P.length ≤ cap ∧ (P = [] ∧ o = none ∧ cap = 0 ∨ ∃ g, o = some ⟨g, 0, none⟩ ∧ B ≤ g ∧ g < w.heap.size ∧ ∀ (j : Nat) (hj : j < P.length), w.cell? ⟨g, j, none⟩ = some (.int .i64 P[j])) := by
  have hl := World.ownsRow.lt h
  have hh := h
  rcases h.2 with ⟨rfl, h0⟩ | ⟨g, cap, cur, rfl, hB, -, hc, -⟩
  · exact ⟨none, 0, by rw [h0], by omega, .inl ⟨List.length_eq_zero_iff.1 h0, rfl, rfl⟩⟩
  · refine ⟨_, cap, rfl, hc, .inr ⟨g, rfl, hB, (hl g rfl).2, fun j hj => ?_⟩⟩
    have := World.ownsRow.cells hh (g := g) rfl j (.int .i64 P[j]) (by simp [numCells, hj])
    rwa [add_off] at this
set_option maxRecDepth 20000 in
theorem OwnN.cut {B n cap : Nat} {o : Option Addr} {P : List Int} {w : World} (h : OwnN B (.slice o n cap) P w) (k : Nat) (hk : k ≤ P.length) : OwnN B (.slice o k cap) (P.take k) w := by
  obtain ⟨h1, h2⟩ := h
  have hl : (P.take k).length = k := by rw [List.length_take]; omega
  refine ⟨by unfold numCells; rw [List.length_map, Nat.mul_one], ?_⟩
  rcases h2 with ⟨h2, h3⟩ | ⟨g', cap', cur, e1, e2, e3, e4, e5, e6, e7⟩
  · cases h2
    obtain rfl : k = 0 := by omega
    exact .inl ⟨rfl, by simp⟩
  · cases e1
    refine .inr ⟨g', cap, cur, by rw [hl], e2, e3, by omega, e5, e6, ?_⟩
    rw [hl, Nat.mul_one]
    rw [Nat.mul_one] at e7
    have e10 := congrArg (List.take k) e7
    rw [List.take_take, Nat.min_eq_left hk] at e10
    rw [e10]
    unfold numCells
    rw [List.map_take]
set_option maxRecDepth 20000 in
/-- What lies from a place on, as a list that is handed on. -/
theorem ints_drop {B : Nat} {P : List Int} {o o' : Option Addr} {cap m : Nat} {w : World} (hm : m ≤ P.length) (hc : P.length ≤ cap) (h : P = [] ∧ o = none ∧ cap = 0 ∨ ∃ g, o = some ⟨g, 0, none⟩ ∧ g < B ∧ ∀ (j : Nat) (hj : j < P.length), w.cell? ⟨g, j, none⟩ = some (.int .i64 P[j])) (ho : o' = (if cap = m then o else o.map (·.add m))) : Ints B w o' (P.drop m) := by
  intro k hk
  rw [List.length_drop] at hk
  rcases h with ⟨rfl, -, -⟩ | ⟨g, rfl, hg, hcell⟩
  · simp at hk
  · rw [if_neg (by omega)] at ho
    refine ⟨⟨g, m, none⟩, by rw [ho, Option.map_some, add_off], hg, ?_⟩
    rw [show (⟨g, m, none⟩ : Addr).add k = ⟨g, m + k, none⟩ by simp [Addr.add], hcell (m + k) (by omega), List.getElem_drop]
end Go.Proofs.YtfaeckaeaeadeaaGreatDoor
namespace Go.Proofs.YtfaeckaeaeadeaaGreatDoor
open Go.RowKit Go.Lib Go.Maps
set_option maxRecDepth 20000 in
theorem eq_drop (F G : List Int) (k : Nat) (h1 : k < F.length) (h2 : k < G.length) : decide (F.drop k = G.drop k) = (decide (F[k] = G[k]) && decide (F.drop (k + 1) = G.drop (k + 1))) := by
  have h : (F.drop k = G.drop k) = (F[k] = G[k] ∧ F.drop (k + 1) = G.drop (k + 1)) := by rw [List.drop_eq_getElem_cons h1, List.drop_eq_getElem_cons h2, List.cons.injEq]
  simp only [h, Bool.decide_and]
set_option maxRecDepth 20000 in
set_option maxHeartbeats 1000000 in
theorem implEqual (o1 o2 : Option Addr) (F G : List Int) (c1 c2 : Nat) (w : World) (hF : Ints w.heap.size w o1 F) (hG : Ints w.heap.size w o2 G) (hl : F.length ≤ 1048576) (_ : G.length ≤ 1048576) :
    Calls Tryz.prog 66 #[.slice o1 F.length c1, .slice o2 G.length c2] w fun e w' => e = .returned (.bool (decide (F = G))) ∧ Below w.heap.size w w' := by
  have HF := mkHid hF
  have HG := mkHid hG
  clear hF hG
  by_cases hlen : F.length = G.length
  · obtain ⟨R, hR⟩ : ∃ R, decide (F = G) = R := ⟨_, rfl⟩
    rw [hR]
    have HR : Hid (decide (F.drop 0 = G.drop 0) = R) := hR
    clear hR
    have b1 : ((F.length : Int) == (G.length : Int)) = true := by simp; omega
    have b2 : ((F.length : Int) != (G.length : Int)) = false := by simp; omega
    have Hlen := mkHid hlen
    clear hlen
    go_enter Tryz.func66, Tryz.ntmps66
    go_wp2
    go_loopw [5, 13] (fun _ iv wr => ∃ k : Nat, k ≤ F.length ∧ iv = .int .i64 k ∧ Hid (decide (F.drop k = G.drop k) = R) ∧ Below w.heap.size w wr) (fun _ iv _ => F.length - (Lib.intOf iv).toNat)
    case atStart => exact ⟨0, Nat.zero_le _, rfl, HR, Below.refl _ _⟩
    case round =>
      clear HR
      obtain ⟨k, hk, rfl, hp, hb⟩ := hrel
      by_cases hlt : k < F.length
      · have hlt2 : k < G.length := by rw [← Hlen.out]; exact hlt
        obtain ⟨a, rfl, ha, ck⟩ := (HF.out.below hb) k hlt
        obtain ⟨b, rfl, hbb, dk⟩ := (HG.out.below hb) k hlt2
        have hst := mkHid (hp.out.symm.trans (eq_drop F G k hlt hlt2))
        clear hp
        generalize F[k] = x at *
        generalize G[k] = y at *
        by_cases hxy : x = y
        · have e1 : (x == y) = true := by simpa using hxy
          have e2 : (x != y) = false := by simp [hxy]
          have hf : Hid (decide (F.drop (k + 1) = G.drop (k + 1)) = R) := by rw [hst.out, decide_eq_true hxy]; exact (Bool.true_and _).symm
          clear hst hxy
          go_wp2
          go_quiet (fail)
          have hbq := mkHid (below_drewN hb nq)
          go_wp2
          go_roundw
          case rel => exact ⟨k + 1, by omega, by go_num, hf, hbq.out⟩
          case measure => simp [Lib.intOf]; omega
        · have e1 : (x == y) = false := by simpa using hxy
          have e2 : (x != y) = true := by simpa using hxy
          have hf : Hid (R = false) := by rw [hst.out, decide_eq_false hxy]; exact Bool.false_and _
          clear hst hxy
          go_wp2
          go_quiet (fail)
          have hbq := mkHid (below_drewN hb nq)
          go_wp2
          go_ret
          rw [hf.out]
          exact ⟨rfl, hbq.out⟩
      · have hf : Hid (R = true) := by
          have := hp.out
          rw [List.drop_eq_nil_of_le (by omega), List.drop_eq_nil_of_le (by rw [← Hlen.out]; omega)] at this
          exact this.symm
        go_wp2
        go_ret
        rw [hf.out]
        exact ⟨rfl, hb⟩
  · have b1 : ((F.length : Int) == (G.length : Int)) = false := by simp; omega
    have b2 : ((F.length : Int) != (G.length : Int)) = true := by simp; omega
    have hd : decide (F = G) = false := decide_eq_false (fun h => hlen (by rw [h]))
    rw [hd]
    go_enter Tryz.func66, Tryz.ntmps66
    go_wp2
    go_ret
    exact ⟨rfl, Below.refl _ _⟩
end Go.Proofs.YtfaeckaeaeadeaaGreatDoor
namespace Go.Proofs.YtfaeckaeaeadeaaGreatDoor
open Go.RowKit Go.Lib Go.Maps
set_option maxHeartbeats 20000000 in
set_option maxRecDepth 20000 in
theorem implOneTree (o : Option Addr) (F : List GQueryNode) (cap lo : Nat) (w : World) (hF : GQueryNodesL lo w.heap.size w o F) (hlF : F.length ≤ 1048576) (hfit : ∀ n ∈ F, n.fits 1048576) :
    Calls Tryz.prog 49 #[.slice o F.length cap] w fun e w' => e = .returned (.bool (Tr.oneT (Qu.kids F) F.length)) ∧ Below w.heap.size w w' := by
  obtain ⟨i0, hi, hy0, hy1, hy2⟩ := info_parts Tryz.info2
  have HF := mkHid hF
  have Hfit := mkHid hfit
  clear hF hfit
  obtain ⟨R, hR⟩ : ∃ R, Tr.oneT (Qu.kids F) F.length = R := ⟨_, rfl⟩
  rw [hR]
  replace hR := mkHid hR
  go_enter Tryz.func49, Tryz.ntmps49
  go_wp2
  generalize hG : w.heap.size = G at *
  go_loopw [3, 9] (fun v iv wr => ∃ (i : Nat) (P : List Int), i ≤ F.length ∧ iv = .int .i64 i ∧ OwnN G v P wr ∧ Hid (Tr.run Tr.tt (Qu.kids F) i = some P) ∧ Below G w wr) (fun _ iv _ => F.length - (Lib.intOf iv).toNat)
  case atStart => exact ⟨0, [], Nat.zero_le _, rfl, OwnN.nil _ _, rfl, hG ▸ Below.refl _ _⟩
  case round =>
    obtain ⟨i, P, hi', rfl, hown, hrun, hb⟩ := hrel
    obtain ⟨oo, cc, rfl, hcc, hform⟩ := hown.form'
    by_cases hlt : i < F.length
    · obtain ⟨a, v4, v5, rfl, ha0, ha, hA, hI⟩ := (HF.out.below hb (Nat.le_refl _)) i hlt
      obtain ⟨⟨a4, e4, rfl, t4⟩, ⟨a5, e5, rfl, t5⟩⟩ := hI
      have hkids : Hid (Qu.kids F i = F[i].kids) := by show Qu.kids F i = _; unfold Qu.kids; rw [List.getElem?_eq_getElem hlt]; rfl
      have hnf := mkHid (Hfit.out F[i] (List.getElem_mem hlt))
      have hrange := mkHid (Tr.run_range i P hrun.out)
      have hPl : P.length ≤ 1048576 := Nat.le_trans (Tr.run_len i P hrun.out) (by omega)
      have c0 := hA.c0
      have c1 := hA.c1
      have c2 := hA.c2
      have c3 := hA.c3
      have c4 := hA.c4
      have c5 := hA.c5
      have hkl : F[i].kids.length ≤ 1048576 := hnf.out.2.2.2.2
      replace t4 := mkHid t4
      replace t5 := mkHid t5
      have hsz := hb.size
      clear hA
      generalize F[i] = n at *
      have hb0 := mkHid (hb.alloc (by omega) (.cells #[.int .i64 n.kind, .string n.name, .string n.text, .int .i64 n.num, .slice a4 n.uids.length e4, .slice a5 n.kids.length e5] 38))
      have hown0 := mkHid (hown.alloc (.cells #[.int .i64 n.kind, .string n.name, .string n.text, .int .i64 n.num, .slice a4 n.uids.length e4, .slice a5 n.kids.length e5] 38))
      obtain ⟨V, hV⟩ : ∃ V, V = wr.alloc (.cells #[.int .i64 n.kind, .string n.name, .string n.text, .int .i64 n.num, .slice a4 n.uids.length e4, .slice a5 n.kids.length e5] 38) := ⟨_, rfl⟩
      replace hV := mkHid hV
      have cM0 := methKidsB n (.slice a4 n.uids.length e4) (.slice a5 n.kids.length e5) V
      unfold GQueryNodeV at cM0
      have cM := mkHid cM0
      clear cM0
      go_wp2_with fail
      rw [← hV.out]
      rw [← hV.out] at hb0 hown0
      refine cM.out.mono ?_
      rintro e V2 ⟨rfl, hb2⟩
      have q0 : V.cell? ⟨wr.heap.size, 0, none⟩ = some (.int .i64 n.kind) := by rw [hV.out]; simp
      have q1 : V.cell? ⟨wr.heap.size, 1, none⟩ = some (.string n.name) := by rw [hV.out]; simp
      have q2 : V.cell? ⟨wr.heap.size, 2, none⟩ = some (.string n.text) := by rw [hV.out]; simp
      have q3 : V.cell? ⟨wr.heap.size, 3, none⟩ = some (.int .i64 n.num) := by rw [hV.out]; simp
      have q4 : V.cell? ⟨wr.heap.size, 4, none⟩ = some (.slice a4 n.uids.length e4) := by rw [hV.out]; simp
      have q5 : V.cell? ⟨wr.heap.size, 5, none⟩ = some (.slice a5 n.kids.length e5) := by rw [hV.out]; simp
      have hVs : V.heap.size = wr.heap.size + 1 := by rw [hV.out]; simp
      have hg1 : wr.heap.size < V.heap.size := by omega
      have p0 := (hb2.cell (p := ⟨wr.heap.size, 0, none⟩) hg1).trans q0
      have p1 := (hb2.cell (p := ⟨wr.heap.size, 1, none⟩) hg1).trans q1
      have p2 := (hb2.cell (p := ⟨wr.heap.size, 2, none⟩) hg1).trans q2
      have p3 := (hb2.cell (p := ⟨wr.heap.size, 3, none⟩) hg1).trans q3
      have p4 := (hb2.cell (p := ⟨wr.heap.size, 4, none⟩) hg1).trans q4
      have p5 := (hb2.cell (p := ⟨wr.heap.size, 5, none⟩) hg1).trans q5
      have hGV : G ≤ V.heap.size := by omega
      have hbw := mkHid (hb0.out.trans (hb2.mono hGV))
      have hbV : Below wr.heap.size wr V := by rw [hV.out]; exact (Below.refl _ _).alloc (Nat.le_refl _) _
      have t5V := mkHid ((t5.out.below ((hbV.trans (hb2.mono hbV.size)).mono (hG ▸ hsz)) (Nat.le_refl _)).mono (Nat.le_refl _) (Nat.le_trans hGV hb2.size))
      have hownW := mkHid (OwnN.keep hown0.out (Nat.le_refl _) hb2)
      have hGV2 : G ≤ V2.heap.size := Nat.le_trans hGV hb2.size
      clear cM c0 c1 c2 c3 c4 c5 q0 q1 q2 q3 q4 q5 hV hb2 hb0 hown0 hform hown hb hbV
      generalize wr.heap.size = g1 at *
      by_cases hle : n.kids.length ≤ P.length
      · obtain ⟨m, hm⟩ : ∃ m, P.length = m + n.kids.length := ⟨P.length - n.kids.length, by omega⟩
        have hmI : (P.length : Int) - (n.kids.length : Int) = (m : Int) := by omega
        have hneg : decide ((m : Int) < 0) = false := by simp
        have hm' := mkHid hm
        have Hcc := mkHid hcc
        clear hm
        clear hcc
        have k0 := cell_regrown p0
        have k1 := cell_regrown p1
        have k2 := cell_regrown p2
        have k3 := cell_regrown p3
        have k4 := cell_regrown p4
        have k5 := cell_regrown p5
        have hformV := OwnN.form' (show OwnN G (.slice oo P.length cc) P V2 from hownW.out)
        have hdl : Hid ((P.drop m).length = n.kids.length) := by show _ = _; rw [List.length_drop]; have := hm'.out; omega
        have hMe : Hid (∀ d os, Calls Tryz.prog 135 #[.agg #[.int .i64 n.kind, .string n.name, .string n.text, .int .i64 n.num, .slice a4 n.uids.length e4, .slice a5 n.kids.length e5]] (Go.Sort.grow (redrawn V2 d) os) fun e w'' => e = .returned (.slice a5 n.kids.length e5) ∧ ∃ p : Regrown, w'' = Go.Sort.grow (redrawn V2 p.d) p.os) := by
          intro d os
          have := methKidsB n (.slice a4 n.uids.length e4) (.slice a5 n.kids.length e5) (Go.Sort.grow (redrawn V2 d) os)
          unfold GQueryNodeV at this
          exact Calls.regrown_of this
        have hEq : Hid (∀ o' c, o' = (if cc = m then oo else oo.map (·.add m)) → ∀ d os, Calls Tryz.prog 66 #[.slice o' n.kids.length c, .slice a5 n.kids.length e5] (Go.Sort.grow (redrawn V2 d) os) fun e w'' => e = .returned (.bool (decide (P.drop m = n.kids))) ∧ ∃ p : Regrown, w'' = Go.Sort.grow (redrawn V2 p.d) p.os) := by
          intro o' c ho d os
          have hbb := below_regrown V2 d os
          have i1 : Ints V2.heap.size V2 o' (P.drop m) := by
            obtain ⟨o2, c2, e2', l2, f2⟩ := hformV
            cases e2'
            refine ints_drop (cap := cc) (o := oo) (by have := hm'.out; omega) Hcc.out ?_ ho
            rcases f2 with f2 | ⟨g, f2, -, f3, f4⟩
            · exact .inl f2
            · exact .inr ⟨g, f2, f3, f4⟩
          have := implEqual o' a5 (P.drop m) n.kids c e5 (Go.Sort.grow (redrawn V2 d) os) ((i1.below hbb).mono hbb.size) ((t5V.out.ints.below hbb).mono hbb.size) (by rw [hdl.out]; exact hkl) hkl
          rw [hdl.out] at this
          exact Calls.regrown_of this
        clear hformV p0 p1 p2 p3 p4 p5
        have hmle : m ≤ P.length := by have := hm'.out; omega
        have hPm : P.length - m = n.kids.length := by have := hm'.out; omega
        obtain ⟨bq, hbq0⟩ : ∃ b, decide (P.drop m = n.kids) = b := ⟨_, rfl⟩
        rw [hbq0] at hEq
        replace hbq0 := mkHid hbq0
        go_wp2
        refine wp_region_quiet_below (by kernel_rfl) (by kernel_rfl) ?_
        quiet_step (fail)
        quiet_step (fail)
        quiet_step (fail)
        quiet_step (fail)
        quiet_step (fail)
        quiet_step (fail)
        quiet_step (fail)
        quiet_step (fail)
        quiet_step ((simp only [methodK, Result.andThen, entersK]; exact ⟨trivial, hMe.out _ _⟩))
        quiet_step (exact hEq.out _ _ rfl _ _)
        repeat (quiet_step (fail))
        refine wpQuiet_nil ?_
        intro _ hw'
        obtain ⟨⟨dq, osq⟩, hw''⟩ := hw'
        subst hw''
        clear hEq hMe k0 k1 k2 k3 k4 k5
        generalize (if cc = m then oo else Option.map (fun x => x.add m) oo) = od
        have hbq := mkHid (hbw.out.trans ((below_regrown V2 dq osq).mono hGV2))
        have hownQ := mkHid (OwnN.keep hownW.out (Nat.le_refl _) (below_regrown V2 dq osq))
        have hsq : G ≤ (Go.Sort.grow (redrawn V2 dq) osq).heap.size := Nat.le_trans hGV2 (below_regrown V2 dq osq).size
        generalize Go.Sort.grow (redrawn V2 dq) osq = W1 at *
        cases bq
        · have hr0 : Hid (R = false) := by
            show R = false
            rw [← hR.out]
            refine Tr.oneT_none _ (i + 1) _ (by omega) ?_
            unfold Tr.run
            rw [hrun.out]
            dsimp only
            rw [if_neg]
            rw [hkids.out, show P.length - n.kids.length = m by have := hm'.out; omega]
            exact fun h => (of_decide_eq_false hbq0.out) h.2.1
          go_wp2
          go_ret
          rw [hr0.out, hG]
          exact ⟨rfl, hbq.out⟩
        · have hrun' : Hid (Tr.run Tr.tt (Qu.kids F) (i + 1) = some (P.take m ++ [(i : Int)])) := by
            show _ = _
            unfold Tr.run
            rw [hrun.out]
            dsimp only
            rw [hkids.out, show P.length - n.kids.length = m by have := hm'.out; omega]
            rw [if_pos ⟨hle, of_decide_eq_true hbq0.out, rfl⟩]
          have htl : (P.take m).length ≤ 1048576 := by rw [List.length_take]; omega
          have hmcc : m ≤ cc := by have := Hcc.out; omega
          have hcut := OwnN.cut hownQ.out m hmle
          have hbe := hbq.out
          clear hownQ hownW hbw
          go_wp2_with (at_builtin; go_must (refine wp_appN (W := w) rfl _ _ 31 rfl i0 Tryz.underlying31 hi hy0 hy1 hy2 G (.slice oo m cc) (P.take m) rfl hcut (i : Int) rfl htl (by omega) hbe ?_; intro v' w' hown' hb'))
          go_roundw
          case rel => exact ⟨i + 1, P.take m ++ [(i : Int)], by omega, by go_num, hown', hrun', hb'⟩
          case measure => simp [Lib.intOf]; omega
      · have hneg : decide ((P.length : Int) - (n.kids.length : Int) < 0) = true := by simp; omega
        have hr0 : Hid (R = false) := by
          show R = false
          rw [← hR.out]
          refine Tr.oneT_none _ (i + 1) _ (by omega) ?_
          unfold Tr.run
          rw [hrun.out]
          dsimp only
          rw [if_neg]
          rw [hkids.out]
          exact fun h => hle h.1
        have Hle := mkHid hle
        clear hle
        go_wp2
        go_quiet (fail)
        have hbq := mkHid (below_drewN hbw.out nq)
        go_wp2
        go_ret
        rw [hr0.out, hG]
        exact ⟨rfl, hbq.out⟩
    · obtain rfl : i = F.length := by omega
      have hRv : Hid (R = ((P.length : Int) == 1)) := by
        show R = _
        rw [← hR.out]
        unfold Tr.oneT
        rw [hrun.out]
      clear hrun hform hown
      generalize P.length = pl at *
      obtain ⟨bb, hbb⟩ : ∃ bb, ((pl : Int) == 1) = bb := ⟨_, rfl⟩
      rw [hbb] at hRv
      go_wp2
      go_ret
      rw [hRv.out, hG]
      exact ⟨rfl, hb⟩
end Go.Proofs.YtfaeckaeaeadeaaGreatDoor
