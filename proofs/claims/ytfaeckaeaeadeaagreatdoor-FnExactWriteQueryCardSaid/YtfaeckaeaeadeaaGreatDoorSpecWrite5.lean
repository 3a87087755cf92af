
/- The specification's l14Write at flags and fields. -/

/- The specification's l14Write at fields. -/

/- The specification's l14Write at nodes with kids. -/
import Derived.Test.YtfaeckaeaeadeaaGreatDoorSpecWrite2
import Derived.BigQuiet
import Derived.Lib.QuietBelow
namespace Go.Proofs.YtfaeckaeaeadeaaGreatDoor
open Go.RowKit Go.Lib Go.Maps
/-- The first of the four whose name it is, from a place on. -/
def Qw.pick (nm : Nat → ByteArray) (x : ByteArray) : Nat → Nat → Option Nat
  | 0, _ => none
  | f + 1, k => if (nm k).toList == x.toList then some k else Qw.pick nm x f (k + 1)
theorem Qw.pick_hit (nm : Nat → ByteArray) (x : ByteArray) (f k : Nat) (h : ((nm k).toList == x.toList) = true) : Qw.pick nm x (f + 1) k = some k := by rw [Qw.pick, if_pos h]
theorem Qw.pick_miss (nm : Nat → ByteArray) (x : ByteArray) (f k : Nat) (h : ((nm k).toList == x.toList) = false) : Qw.pick nm x (f + 1) k = Qw.pick nm x f (k + 1) := by
  conv => lhs; unfold Qw.pick
  rw [if_neg (by rw [h]; simp)]
def Qw.flagT (un : ByteArray) (x : ByteArray) : List UInt8 := match Qw.pick Qw.fn x 4 0 with | some j => un.data.toList ++ (Qw.fk j).data.toList | none => un.data.toList ++ [75, 69, 89, 87, 79, 82, 68, 32] ++ x.data.toList
theorem fk_size (j : Nat) : (Qw.fk j).size ≤ 8 := by unfold Qw.fk; split <;> decide
theorem fn_size (j : Nat) : (Qw.fn j).size ≤ 9 := by unfold Qw.fn; split <;> decide
abbrev fkO : Obj := .cells #[.string ⟨#[83, 69, 69, 78]⟩, .string ⟨#[70, 76, 65, 71, 71, 69, 68]⟩, .string ⟨#[68, 69, 76, 69, 84, 69, 68]⟩, .string ⟨#[65, 78, 83, 87, 69, 82, 69, 68]⟩] 9
theorem fk_cell (w : World) (b : Nat) (hh : w.heap[b]? = some fkO) (j : Nat) (hj : j < 4) : w.cell? ⟨b, j, none⟩ = some (.string (Qw.fk j)) := by
  match j, hj with
  | 0, _ => simp [World.cell?, hh, Qw.fk]
  | 1, _ => simp [World.cell?, hh, Qw.fk]
  | 2, _ => simp [World.cell?, hh, Qw.fk]
  | 3, _ => simp [World.cell?, hh, Qw.fk]
set_option maxHeartbeats 4000000 in
set_option maxRecDepth 20000 in
theorem spW2 (o : Option Addr) (F : List GQueryNode) (cap lo i : Nat) (wh : Bool) (w : World) (hi : i < F.length) (hF : GQueryNodesL lo w.heap.size w o F) (hk : F[i].kind = 2) (hn : F[i].name.size ≤ 70) :
    Calls Tryz.prog 11 #[.slice o F.length cap, .int .i64 i, .bool wh] w (RetT (Qw.flagT ⟨#[]⟩ F[i].name) w) := by
  obtain ⟨a, v4, v5, rfl, ha0, ha, hA, hI⟩ := hF i hi
  obtain ⟨⟨a4, e4, rfl, t4⟩, ⟨a5, e5, rfl, t5⟩⟩ := hI
  have c0 := hA.c0
  have c1 := hA.c1
  have c2 := hA.c2
  have c3 := hA.c3
  have c4 := hA.c4
  have c5 := hA.c5
  clear hA hF t5 t4
  generalize F[i] = n at *
  obtain ⟨kd, nm, tx, nu, us, ks⟩ := n
  dsimp only at *
  subst hk
  obtain ⟨P, hP⟩ : ∃ P, Qw.pick Qw.fn nm 4 0 = P := ⟨_, rfl⟩
  obtain ⟨R, hR⟩ : ∃ R, Qw.flagT ⟨#[]⟩ nm = R := ⟨_, rfl⟩
  rw [hR]
  rw [Qw.flagT, hP] at hR
  replace hR := mkHid hR
  replace hP := mkHid hP
  obtain ⟨W2, hW2⟩ : ∃ W2, W2 = (w.alloc (.cells #[.int .i64 2, .string nm, .string tx, .int .i64 nu, .slice a4 us.length e4, .slice a5 ks.length e5] 38)).alloc fkO := ⟨_, rfl⟩
  have hbW : Below w.heap.size w W2 := by rw [hW2]; exact ((Below.refl _ _).alloc (Nat.le_refl _) _).alloc (by simp) _
  have q1 : W2.cell? ⟨w.heap.size, 1, none⟩ = some (.string nm) := by rw [hW2]; simp
  have hB : W2.heap[w.heap.size + 1]? = some fkO := by
    rw [hW2]
    show ((w.heap.push _).push fkO)[w.heap.size + 1]? = _
    rw [Array.getElem?_push]
    simp
  have qk := mkHid (fk_cell W2 _ hB)
  have hs2 : W2.heap.size = w.heap.size + 2 := by rw [hW2]; simp
  have hg0 : w.heap.size < W2.heap.size := by omega
  have hg1 : w.heap.size + 1 < W2.heap.size := by omega
  replace hW2 := mkHid hW2
  clear hB
  go_enter Tryz.func11, Tryz.ntmps11
  go_wp2
  rw [← hW2.out]
  clear c0 c1 c2 c3 c4 c5 hs2
  generalize hG : w.heap.size = G at *
  go_loopw [10] (fun kv wr => ∃ k : Nat, k ≤ 4 ∧ kv = .int .i64 k ∧ Hid (Qw.pick Qw.fn nm (4 - k) k = P) ∧ Hid (Below W2.heap.size W2 wr)) (fun kv _ => 4 - (Lib.intOf kv).toNat)
  case atStart => exact ⟨0, Nat.zero_le _, rfl, hP, Below.refl _ _⟩
  case round =>
    clear hP
    obtain ⟨k, hk, rfl, hPk, hb⟩ := hrel
    have r1 := (hb.out.cell (p := ⟨G, 1, none⟩) hg0).trans q1
    have hbw : Hid (Below G w wr) := show Below _ _ _ from hbW.trans (hb.out.mono (by omega))
    by_cases hk4 : k < 4
    · have rk := (hb.out.cell (p := ⟨G + 1, k, none⟩) hg1).trans (qk.out k hk4)
      have hk4I : (k : Int) < 4 := by omega
      have k1 := cell_regrown r1
      have kk := cell_regrown rk
      have cF : Hid (∀ d os, Calls Tryz.prog 21 #[.string (Qw.fk k)] (Go.Sort.grow (redrawn wr d) os) fun e w'' => e = .returned (.string (Qw.fn k)) ∧ ∃ p : Regrown, w'' = Go.Sort.grow (redrawn wr p.d) p.os) := fun d os => Calls.regrown_of ((specFlagOf k hk4 _).mono fun e w' ⟨he, hw⟩ => ⟨he, by rw [hw]; exact Below.refl _ _⟩)
      obtain ⟨f, hf⟩ : ∃ f, 4 - k = f + 1 := ⟨3 - k, by omega⟩
      rw [hf] at hPk
      have hfk := fk_size k
      obtain ⟨b, hb0⟩ : ∃ b, ((Qw.fn k).toList == nm.toList) = b := ⟨_, rfl⟩
      cases b
      · have hPn : Hid (Qw.pick Qw.fn nm (4 - (k + 1)) (k + 1) = P) := show _ = _ from by rw [← hPk.out, Qw.pick_miss _ _ _ _ hb0, show 4 - (k + 1) = f by omega]
        generalize Qw.fk k = x at *
        generalize Qw.fn k = y at *
        clear hPk hf
        go_wp2
        refine wp_region_quiet_below (by kernel_rfl) (by kernel_rfl) ?_
        repeat (go_big_quiet_step (exact cF.out _ _))
        refine wpQuiet_nil ?_
        intro _ hw'
        obtain ⟨⟨dq, osq⟩, hw''⟩ := hw'
        subst hw''
        have hbq := mkHid (hb.out.trans ((below_regrown wr dq osq).mono hb.out.size))
        go_wp2
        go_roundw
        case rel => exact ⟨k + 1, by omega, by go_num, hPn, hbq⟩
        case measure => simp [Lib.intOf]; omega
      · have hRk : Hid (R = (⟨#[]⟩ : ByteArray).data.toList ++ (Qw.fk k).data.toList) := show _ = _ from by rw [← hR.out, ← hPk.out, Qw.pick_hit _ _ _ _ hb0]
        generalize Qw.fk k = x at *
        generalize Qw.fn k = y at *
        clear hPk hf
        go_wp2
        refine wp_region_quiet_below (by kernel_rfl) (by kernel_rfl) ?_
        repeat (go_big_quiet_step (exact cF.out _ _))
        refine wpQuiet_nil ?_
        intro _ hw'
        obtain ⟨⟨dq, osq⟩, hw''⟩ := hw'
        subst hw''
        have hbq := below_regrown wr dq osq
        have hlt : G + 1 < wr.heap.size := Nat.lt_of_lt_of_le hg1 hb.out.size
        have rq := (hbq.cell (p := ⟨G + 1, k, none⟩) hlt).trans rk
        have hbe := mkHid (hbw.out.trans (hbq.mono (by omega)))
        generalize Go.Sort.grow (redrawn wr dq) osq = wq at *
        clear k1 kk cF r1 rk
        go_wp2
        go_ret
        refine ⟨_, rfl, ?_, by first | exact hbe.out | (rw [hG]; exact hbe.out)⟩
        rw [hRk.out, cat_list]
    · obtain rfl : k = 4 := by omega
      have hRn : Hid (R = (⟨#[]⟩ : ByteArray).data.toList ++ [75, 69, 89, 87, 79, 82, 68, 32] ++ nm.data.toList) := show _ = _ from by rw [← hR.out, ← hPk.out]; rfl
      clear hPk
      go_wp2
      go_ret
      refine ⟨_, rfl, ?_, by first | exact hbw.out | (rw [hG]; exact hbw.out)⟩
      rw [hRn.out]
      simp only [cat_list]
set_option maxHeartbeats 4000000 in
set_option maxRecDepth 20000 in
theorem spW3 (o : Option Addr) (F : List GQueryNode) (cap lo i : Nat) (wh : Bool) (w : World) (hi : i < F.length) (hF : GQueryNodesL lo w.heap.size w o F) (hk : F[i].kind = 3) (hn : F[i].name.size ≤ 70) :
    Calls Tryz.prog 11 #[.slice o F.length cap, .int .i64 i, .bool wh] w (RetT (Qw.flagT ⟨#[85, 78]⟩ F[i].name) w) := by
  obtain ⟨a, v4, v5, rfl, ha0, ha, hA, hI⟩ := hF i hi
  obtain ⟨⟨a4, e4, rfl, t4⟩, ⟨a5, e5, rfl, t5⟩⟩ := hI
  have c0 := hA.c0
  have c1 := hA.c1
  have c2 := hA.c2
  have c3 := hA.c3
  have c4 := hA.c4
  have c5 := hA.c5
  clear hA hF t5 t4
  generalize F[i] = n at *
  obtain ⟨kd, nm, tx, nu, us, ks⟩ := n
  dsimp only at *
  subst hk
  obtain ⟨P, hP⟩ : ∃ P, Qw.pick Qw.fn nm 4 0 = P := ⟨_, rfl⟩
  obtain ⟨R, hR⟩ : ∃ R, Qw.flagT ⟨#[85, 78]⟩ nm = R := ⟨_, rfl⟩
  rw [hR]
  rw [Qw.flagT, hP] at hR
  replace hR := mkHid hR
  replace hP := mkHid hP
  obtain ⟨W2, hW2⟩ : ∃ W2, W2 = (w.alloc (.cells #[.int .i64 3, .string nm, .string tx, .int .i64 nu, .slice a4 us.length e4, .slice a5 ks.length e5] 38)).alloc fkO := ⟨_, rfl⟩
  have hbW : Below w.heap.size w W2 := by rw [hW2]; exact ((Below.refl _ _).alloc (Nat.le_refl _) _).alloc (by simp) _
  have q1 : W2.cell? ⟨w.heap.size, 1, none⟩ = some (.string nm) := by rw [hW2]; simp
  have hB : W2.heap[w.heap.size + 1]? = some fkO := by
    rw [hW2]
    show ((w.heap.push _).push fkO)[w.heap.size + 1]? = _
    rw [Array.getElem?_push]
    simp
  have qk := mkHid (fk_cell W2 _ hB)
  have hs2 : W2.heap.size = w.heap.size + 2 := by rw [hW2]; simp
  have hg0 : w.heap.size < W2.heap.size := by omega
  have hg1 : w.heap.size + 1 < W2.heap.size := by omega
  replace hW2 := mkHid hW2
  clear hB
  go_enter Tryz.func11, Tryz.ntmps11
  go_wp2
  rw [← hW2.out]
  clear c0 c1 c2 c3 c4 c5 hs2
  generalize hG : w.heap.size = G at *
  go_loopw [10] (fun kv wr => ∃ k : Nat, k ≤ 4 ∧ kv = .int .i64 k ∧ Hid (Qw.pick Qw.fn nm (4 - k) k = P) ∧ Hid (Below W2.heap.size W2 wr)) (fun kv _ => 4 - (Lib.intOf kv).toNat)
  case atStart => exact ⟨0, Nat.zero_le _, rfl, hP, Below.refl _ _⟩
  case round =>
    clear hP
    obtain ⟨k, hk, rfl, hPk, hb⟩ := hrel
    have r1 := (hb.out.cell (p := ⟨G, 1, none⟩) hg0).trans q1
    have hbw : Hid (Below G w wr) := show Below _ _ _ from hbW.trans (hb.out.mono (by omega))
    by_cases hk4 : k < 4
    · have rk := (hb.out.cell (p := ⟨G + 1, k, none⟩) hg1).trans (qk.out k hk4)
      have hk4I : (k : Int) < 4 := by omega
      have k1 := cell_regrown r1
      have kk := cell_regrown rk
      have cF : Hid (∀ d os, Calls Tryz.prog 21 #[.string (Qw.fk k)] (Go.Sort.grow (redrawn wr d) os) fun e w'' => e = .returned (.string (Qw.fn k)) ∧ ∃ p : Regrown, w'' = Go.Sort.grow (redrawn wr p.d) p.os) := fun d os => Calls.regrown_of ((specFlagOf k hk4 _).mono fun e w' ⟨he, hw⟩ => ⟨he, by rw [hw]; exact Below.refl _ _⟩)
      obtain ⟨f, hf⟩ : ∃ f, 4 - k = f + 1 := ⟨3 - k, by omega⟩
      rw [hf] at hPk
      have hfk := fk_size k
      obtain ⟨b, hb0⟩ : ∃ b, ((Qw.fn k).toList == nm.toList) = b := ⟨_, rfl⟩
      cases b
      · have hPn : Hid (Qw.pick Qw.fn nm (4 - (k + 1)) (k + 1) = P) := show _ = _ from by rw [← hPk.out, Qw.pick_miss _ _ _ _ hb0, show 4 - (k + 1) = f by omega]
        generalize Qw.fk k = x at *
        generalize Qw.fn k = y at *
        clear hPk hf
        go_wp2
        refine wp_region_quiet_below (by kernel_rfl) (by kernel_rfl) ?_
        repeat (go_big_quiet_step (exact cF.out _ _))
        refine wpQuiet_nil ?_
        intro _ hw'
        obtain ⟨⟨dq, osq⟩, hw''⟩ := hw'
        subst hw''
        have hbq := mkHid (hb.out.trans ((below_regrown wr dq osq).mono hb.out.size))
        go_wp2
        go_roundw
        case rel => exact ⟨k + 1, by omega, by go_num, hPn, hbq⟩
        case measure => simp [Lib.intOf]; omega
      · have hRk : Hid (R = (⟨#[85, 78]⟩ : ByteArray).data.toList ++ (Qw.fk k).data.toList) := show _ = _ from by rw [← hR.out, ← hPk.out, Qw.pick_hit _ _ _ _ hb0]
        generalize Qw.fk k = x at *
        generalize Qw.fn k = y at *
        clear hPk hf
        go_wp2
        refine wp_region_quiet_below (by kernel_rfl) (by kernel_rfl) ?_
        repeat (go_big_quiet_step (exact cF.out _ _))
        refine wpQuiet_nil ?_
        intro _ hw'
        obtain ⟨⟨dq, osq⟩, hw''⟩ := hw'
        subst hw''
        have hbq := below_regrown wr dq osq
        have hlt : G + 1 < wr.heap.size := Nat.lt_of_lt_of_le hg1 hb.out.size
        have rq := (hbq.cell (p := ⟨G + 1, k, none⟩) hlt).trans rk
        have hbe := mkHid (hbw.out.trans (hbq.mono (by omega)))
        generalize Go.Sort.grow (redrawn wr dq) osq = wq at *
        clear k1 kk cF r1 rk
        go_wp2
        go_ret
        refine ⟨_, rfl, ?_, by first | exact hbe.out | (rw [hG]; exact hbe.out)⟩
        rw [hRk.out, cat_list]
    · obtain rfl : k = 4 := by omega
      have hRn : Hid (R = (⟨#[85, 78]⟩ : ByteArray).data.toList ++ [75, 69, 89, 87, 79, 82, 68, 32] ++ nm.data.toList) := show _ = _ from by rw [← hR.out, ← hPk.out]; rfl
      clear hPk
      go_wp2
      go_ret
      refine ⟨_, rfl, ?_, by first | exact hbw.out | (rw [hG]; exact hbw.out)⟩
      rw [hRn.out]
      simp only [cat_list]
end Go.Proofs.YtfaeckaeaeadeaaGreatDoor
namespace Go.Proofs.YtfaeckaeaeadeaaGreatDoor
open Go.RowKit Go.Lib Go.Maps
def Qw.fieldT (x t : ByteArray) : List UInt8 := match Qw.pick Qw.hn x 4 0 with | some j => (Qw.hk j).data.toList ++ [32] ++ Qw.quote t | none => [72, 69, 65, 68, 69, 82, 32] ++ x.data.toList ++ [32] ++ Qw.quote t
theorem hk_size (j : Nat) : (Qw.hk j).size ≤ 8 := by unfold Qw.hk; split <;> decide
abbrev hkO : Obj := .cells #[.string ⟨#[70, 82, 79, 77]⟩, .string ⟨#[84, 79]⟩, .string ⟨#[67, 67]⟩, .string ⟨#[83, 85, 66, 74, 69, 67, 84]⟩] 9
theorem hk_cell (w : World) (b : Nat) (hh : w.heap[b]? = some hkO) (j : Nat) (hj : j < 4) : w.cell? ⟨b, j, none⟩ = some (.string (Qw.hk j)) := by
  match j, hj with
  | 0, _ => simp [World.cell?, hh, Qw.hk]
  | 1, _ => simp [World.cell?, hh, Qw.hk]
  | 2, _ => simp [World.cell?, hh, Qw.hk]
  | 3, _ => simp [World.cell?, hh, Qw.hk]
set_option maxHeartbeats 4000000 in
set_option maxRecDepth 20000 in
theorem spW4 (o : Option Addr) (F : List GQueryNode) (cap lo i : Nat) (wh : Bool) (w : World) (hi : i < F.length) (hF : GQueryNodesL lo w.heap.size w o F) (hk : F[i].kind = 4) (hn : F[i].name.size ≤ 70) (hs : F[i].text.size ≤ 200) :
    Calls Tryz.prog 11 #[.slice o F.length cap, .int .i64 i, .bool wh] w (RetT (Qw.fieldT F[i].name F[i].text) w) := by
  obtain ⟨a, v4, v5, rfl, ha0, ha, hA, hI⟩ := hF i hi
  obtain ⟨⟨a4, e4, rfl, t4⟩, ⟨a5, e5, rfl, t5⟩⟩ := hI
  have c0 := hA.c0
  have c1 := hA.c1
  have c2 := hA.c2
  have c3 := hA.c3
  have c4 := hA.c4
  have c5 := hA.c5
  clear hA hF t5 t4
  generalize F[i] = n at *
  obtain ⟨kd, nm, tx, nu, us, ks⟩ := n
  dsimp only at *
  subst hk
  have cQ := mkHid (fun w => specQuote tx w (by omega))
  have hql := Qw.qs_le tx.data.toList
  obtain ⟨q, hq0⟩ : ∃ q : ByteArray, (⟨(34 :: Pl.qs tx.data.toList ++ [34]).toArray⟩ : ByteArray) = q := ⟨_, rfl⟩
  have hq : Hid (q.data.toList = Qw.quote tx) := show _ = _ from by rw [← hq0]; rfl
  have hqs : q.size ≤ 402 := by
    have h1 : tx.data.toList.length = tx.size := by simp
    rw [← hq0]
    show (34 :: Pl.qs tx.data.toList ++ [34]).toArray.size ≤ 402
    simp
    omega
  rw [hq0] at cQ
  clear hq0 hql
  obtain ⟨P, hP⟩ : ∃ P, Qw.pick Qw.hn nm 4 0 = P := ⟨_, rfl⟩
  obtain ⟨R, hR⟩ : ∃ R, Qw.fieldT nm tx = R := ⟨_, rfl⟩
  rw [hR]
  rw [Qw.fieldT, hP] at hR
  replace hR := mkHid hR
  replace hP := mkHid hP
  obtain ⟨W2, hW2⟩ : ∃ W2, W2 = (w.alloc (.cells #[.int .i64 4, .string nm, .string tx, .int .i64 nu, .slice a4 us.length e4, .slice a5 ks.length e5] 38)).alloc hkO := ⟨_, rfl⟩
  have hbW : Below w.heap.size w W2 := by rw [hW2]; exact ((Below.refl _ _).alloc (Nat.le_refl _) _).alloc (by simp) _
  have q1 : W2.cell? ⟨w.heap.size, 1, none⟩ = some (.string nm) := by rw [hW2]; simp
  have hB : W2.heap[w.heap.size + 1]? = some hkO := by
    rw [hW2]
    show ((w.heap.push _).push hkO)[w.heap.size + 1]? = _
    rw [Array.getElem?_push]
    simp
  have q2 : W2.cell? ⟨w.heap.size, 2, none⟩ = some (.string tx) := by rw [hW2]; simp
  have qk := mkHid (hk_cell W2 _ hB)
  have hs2 : W2.heap.size = w.heap.size + 2 := by rw [hW2]; simp
  have hg0 : w.heap.size < W2.heap.size := by omega
  have hg1 : w.heap.size + 1 < W2.heap.size := by omega
  replace hW2 := mkHid hW2
  clear hB
  go_enter Tryz.func11, Tryz.ntmps11
  go_wp2
  rw [← hW2.out]
  clear c0 c1 c2 c3 c4 c5 hs2
  generalize hG : w.heap.size = G at *
  go_loopw [12] (fun kv wr => ∃ k : Nat, k ≤ 4 ∧ kv = .int .i64 k ∧ Hid (Qw.pick Qw.hn nm (4 - k) k = P) ∧ Hid (Below W2.heap.size W2 wr)) (fun kv _ => 4 - (Lib.intOf kv).toNat)
  case atStart => exact ⟨0, Nat.zero_le _, rfl, hP, Below.refl _ _⟩
  case round =>
    clear hP
    obtain ⟨k, hk, rfl, hPk, hb⟩ := hrel
    have r1 := (hb.out.cell (p := ⟨G, 1, none⟩) hg0).trans q1
    have r2 := (hb.out.cell (p := ⟨G, 2, none⟩) hg0).trans q2
    have hbw : Hid (Below G w wr) := show Below _ _ _ from hbW.trans (hb.out.mono (by omega))
    by_cases hk4 : k < 4
    · have rk := (hb.out.cell (p := ⟨G + 1, k, none⟩) hg1).trans (qk.out k hk4)
      have hk4I : (k : Int) < 4 := by omega
      have k1 := cell_regrown r1
      have kk := cell_regrown rk
      have cF : Hid (∀ d os, Calls Tryz.prog 22 #[.string (Qw.hk k)] (Go.Sort.grow (redrawn wr d) os) fun e w'' => e = .returned (.string (Qw.hn k)) ∧ ∃ p : Regrown, w'' = Go.Sort.grow (redrawn wr p.d) p.os) := fun d os => Calls.regrown_of ((specFieldOf k hk4 _).mono fun e w' ⟨he, hw⟩ => ⟨he, by rw [hw]; exact Below.refl _ _⟩)
      obtain ⟨f, hf⟩ : ∃ f, 4 - k = f + 1 := ⟨3 - k, by omega⟩
      rw [hf] at hPk
      have hfk := hk_size k
      obtain ⟨b, hb0⟩ : ∃ b, ((Qw.hn k).toList == nm.toList) = b := ⟨_, rfl⟩
      cases b
      · have hPn : Hid (Qw.pick Qw.hn nm (4 - (k + 1)) (k + 1) = P) := show _ = _ from by rw [← hPk.out, Qw.pick_miss _ _ _ _ hb0, show 4 - (k + 1) = f by omega]
        generalize Qw.hk k = x at *
        generalize Qw.hn k = y at *
        clear hPk hf
        go_wp2
        refine wp_region_quiet_below (by kernel_rfl) (by kernel_rfl) ?_
        repeat (go_big_quiet_step (exact cF.out _ _))
        refine wpQuiet_nil ?_
        intro _ hw'
        obtain ⟨⟨dq, osq⟩, hw''⟩ := hw'
        subst hw''
        have hbq := mkHid (hb.out.trans ((below_regrown wr dq osq).mono hb.out.size))
        go_wp2
        go_roundw
        case rel => exact ⟨k + 1, by omega, by go_num, hPn, hbq⟩
        case measure => simp [Lib.intOf]; omega
      · have hRk : Hid (R = (Qw.hk k).data.toList ++ [32] ++ Qw.quote tx) := show _ = _ from by rw [← hR.out, ← hPk.out, Qw.pick_hit _ _ _ _ hb0]
        generalize Qw.hk k = x at *
        generalize Qw.hn k = y at *
        clear hPk hf
        go_wp2
        refine wp_region_quiet_below (by kernel_rfl) (by kernel_rfl) ?_
        repeat (go_big_quiet_step (exact cF.out _ _))
        refine wpQuiet_nil ?_
        intro _ hw'
        obtain ⟨⟨dq, osq⟩, hw''⟩ := hw'
        subst hw''
        have hbq := below_regrown wr dq osq
        have hlt : G + 1 < wr.heap.size := Nat.lt_of_lt_of_le hg1 hb.out.size
        have rq := (hbq.cell (p := ⟨G + 1, k, none⟩) hlt).trans rk
        have hbe := mkHid (hbw.out.trans (hbq.mono (by omega)))
        have rq2 := (hbq.cell (p := ⟨G, 2, none⟩) (Nat.lt_of_lt_of_le hg0 hb.out.size)).trans r2
        have hsq := hbq.size
        generalize Go.Sort.grow (redrawn wr dq) osq = wq at *
        clear k1 kk cF r1 rk
        have kq := cell_regrown rq
        have kq2 := cell_regrown rq2
        have cQ2 : Hid (∀ d os, Calls Tryz.prog 23 #[.string tx] (Go.Sort.grow (redrawn wq d) os) fun e w'' => e = .returned (.string q) ∧ ∃ p : Regrown, w'' = Go.Sort.grow (redrawn wq p.d) p.os) := fun d os => Calls.regrown_of (cQ.out _)
        have n0 : ¬ 9223372036854775807 < x.size + 1 := by omega
        have n1 : ¬ 9223372036854775807 < x.size + 1 + q.size := by omega
        go_wp2
        refine wp_region_quiet_below (by kernel_rfl) (by kernel_rfl) ?_
        repeat (go_big_quiet_step (exact cQ2.out _ _))
        refine wpQuiet_nil ?_
        intro _ hw'
        obtain ⟨⟨dr, osr⟩, hw''⟩ := hw'
        subst hw''
        have hbe2 := mkHid (hbe.out.trans ((below_regrown wq dr osr).mono (by omega)))
        go_wp2
        go_ret
        refine ⟨_, rfl, ?_, by first | exact hbe2.out | (rw [hG]; exact hbe2.out)⟩
        rw [hRk.out, cat_list, cat_list, hq.out]
    · obtain rfl : k = 4 := by omega
      have hRn : Hid (R = [72, 69, 65, 68, 69, 82, 32] ++ nm.data.toList ++ [32] ++ Qw.quote tx) := show _ = _ from by rw [← hR.out, ← hPk.out]; rfl
      clear hPk
      have kr1 := cell_regrown r1
      have kr2 := cell_regrown r2
      have cQ2 : Hid (∀ d os, Calls Tryz.prog 23 #[.string tx] (Go.Sort.grow (redrawn wr d) os) fun e w'' => e = .returned (.string q) ∧ ∃ p : Regrown, w'' = Go.Sort.grow (redrawn wr p.d) p.os) := fun d os => Calls.regrown_of (cQ.out _)
      have n0 : ¬ 9223372036854775807 < 7 + nm.size := by omega
      have n1 : ¬ 9223372036854775807 < 7 + nm.size + 1 := by omega
      have n2 : ¬ 9223372036854775807 < 7 + nm.size + 1 + q.size := by omega
      have hsr := hb.out.size
      go_wp2
      refine wp_region_quiet_below (by kernel_rfl) (by kernel_rfl) ?_
      repeat (go_big_quiet_step (exact cQ2.out _ _))
      refine wpQuiet_nil ?_
      intro _ hw'
      obtain ⟨⟨dr, osr⟩, hw''⟩ := hw'
      subst hw''
      have hbe2 := mkHid (hbw.out.trans ((below_regrown wr dr osr).mono (by omega)))
      go_wp2
      go_ret
      refine ⟨_, rfl, ?_, by first | exact hbe2.out | (rw [hG]; exact hbe2.out)⟩
      rw [hRn.out]
      simp only [cat_list, hq.out]
end Go.Proofs.YtfaeckaeaeadeaaGreatDoor
namespace Go.Proofs.YtfaeckaeaeadeaaGreatDoor
open Go.RowKit Go.Lib Go.Maps
def txB (X : List UInt8) : ByteArray := ⟨X.toArray⟩
theorem txB_list (X : List UInt8) : (txB X).data.toList = X := rfl
theorem txB_size (X : List UInt8) : (txB X).size = X.length := by show X.toArray.size = _; simp
theorem txB_eq (t : ByteArray) (X : List UInt8) (h : t.data.toList = X) : t = txB X := by
  subst h
  apply ByteArray.ext
  show t.data = t.data.toList.toArray
  simp
theorem RetT.eq {X : List UInt8} {w : World} {e : Ending} {w' : World} (h : RetT X w e w') : e = .returned (.string (txB X)) ∧ Below w.heap.size w w' := by
  obtain ⟨t, rfl, h2, h3⟩ := h
  rw [txB_eq t X h2]
  exact ⟨rfl, h3⟩
theorem txB_cat (X Y : List UInt8) : txB X ++ txB Y = txB (X ++ Y) := by
  refine txB_eq _ _ ?_
  rw [cat_list]
  rfl
/-- A node's kid: how it is written, wherever the call stands. -/
def KidT (o : Option Addr) (N cap : Nat) (w : World) (k : Int) (X : List UInt8) : Prop := ∀ W : World, Below w.heap.size w W → Calls Tryz.prog 11 #[.slice o N cap, .int .i64 k, .bool false] W (RetT X W)
set_option maxHeartbeats 4000000 in
set_option maxRecDepth 20000 in
theorem spW14 (o : Option Addr) (F : List GQueryNode) (cap lo i : Nat) (wh : Bool) (w : World) (hi : i < F.length) (hF : GQueryNodesL lo w.heap.size w o F) (hk : F[i].kind = 14) (k0 : Int) (hks : F[i].kids = [k0]) (X : List UInt8) (hX : X.length ≤ 1000000) (hT : KidT o F.length cap w k0 X) :
    Calls Tryz.prog 11 #[.slice o F.length cap, .int .i64 i, .bool wh] w (RetT ([78, 79, 84, 32] ++ X) w) := by
  obtain ⟨a, v4, v5, rfl, ha0, ha, hA, hI⟩ := hF i hi
  obtain ⟨⟨a4, e4, rfl, t4⟩, ⟨a5, e5, rfl, t5⟩⟩ := hI
  have c0 := hA.c0
  have c1 := hA.c1
  have c2 := hA.c2
  have c3 := hA.c3
  have c4 := hA.c4
  have c5 := hA.c5
  clear hA hF t4
  generalize F[i] = n at *
  obtain ⟨kd, nm, tx, nu, us, ks⟩ := n
  dsimp only at *
  subst hk hks
  obtain ⟨b, rfl, hb0, hb1, ck⟩ := t5 0 (by simp)
  simp only [List.getElem_cons_zero] at ck
  have HT := mkHid hT
  clear hT t5
  have hbV := (Below.refl w.heap.size w).alloc (Nat.le_refl _) (.cells #[.int .i64 14, .string nm, .string tx, .int .i64 nu, .slice a4 us.length e4, .slice (some b) 1 e5] 38)
  have cK := mkHid ((HT.out _ hbV).mono fun e w' h => RetT.eq h)
  have hsz := txB_size X
  have hq := txB_list X
  generalize txB X = q at *
  have e0 : b.add 0 = b := by simp [Addr.add]
  rw [e0] at ck
  have ck2 := (hbV.cell (p := b) hb1).trans ck
  go_enter Tryz.func11, Tryz.ntmps11
  go_wp2_with fail
  refine cK.out.mono ?_
  rintro e w1 ⟨rfl, hb2⟩
  go_wp2
  go_ret
  refine ⟨_, rfl, ?_, hbV.trans (hb2.mono hbV.size)⟩
  rw [cat_list, hq]
  rfl
set_option maxHeartbeats 4000000 in
set_option maxRecDepth 20000 in
theorem spW15 (o : Option Addr) (F : List GQueryNode) (cap lo i : Nat) (wh : Bool) (w : World) (hi : i < F.length) (hF : GQueryNodesL lo w.heap.size w o F) (hk : F[i].kind = 15) (k0 k1 : Int) (hks : F[i].kids = [k0, k1]) (X Y : List UInt8) (hX : X.length ≤ 1000000) (hY : Y.length ≤ 1000000) (hT : KidT o F.length cap w k0 X) (hU : KidT o F.length cap w k1 Y) :
    Calls Tryz.prog 11 #[.slice o F.length cap, .int .i64 i, .bool wh] w (RetT ([79, 82, 32] ++ X ++ [32] ++ Y) w) := by
  obtain ⟨a, v4, v5, rfl, ha0, ha, hA, hI⟩ := hF i hi
  obtain ⟨⟨a4, e4, rfl, t4⟩, ⟨a5, e5, rfl, t5⟩⟩ := hI
  have c0 := hA.c0
  have c1 := hA.c1
  have c2 := hA.c2
  have c3 := hA.c3
  have c4 := hA.c4
  have c5 := hA.c5
  clear hA hF t4
  generalize F[i] = n at *
  obtain ⟨kd, nm, tx, nu, us, ks⟩ := n
  dsimp only at *
  subst hk hks
  obtain ⟨b, rfl, hb0, hb1, ck⟩ := t5 0 (by simp)
  obtain ⟨b', e', -, -, ck'⟩ := t5 1 (by simp)
  cases e'
  simp only [List.getElem_cons_zero, List.getElem_cons_succ] at ck ck'
  have HT := mkHid hT
  have HU := mkHid hU
  clear hT hU t5
  obtain ⟨V, hV⟩ : ∃ V, V = w.alloc (.cells #[.int .i64 15, .string nm, .string tx, .int .i64 nu, .slice a4 us.length e4, .slice (some b) 2 e5] 38) := ⟨_, rfl⟩
  have hbV : Below w.heap.size w V := by rw [hV]; exact (Below.refl w.heap.size w).alloc (Nat.le_refl _) _
  have cX : Hid (∀ d os, Calls Tryz.prog 11 #[.slice (some a) F.length cap, .int .i64 k0, .bool false] (Go.Sort.grow (redrawn V d) os) fun e w'' => e = .returned (.string (txB X)) ∧ ∃ p : Regrown, w'' = Go.Sort.grow (redrawn V p.d) p.os) := fun d os => Calls.regrown_of ((HT.out _ (hbV.trans ((below_regrown V d os).mono hbV.size))).mono fun e w' h => RetT.eq h)
  have cY : Hid (∀ d os, Calls Tryz.prog 11 #[.slice (some a) F.length cap, .int .i64 k1, .bool false] (Go.Sort.grow (redrawn V d) os) fun e w'' => e = .returned (.string (txB Y)) ∧ ∃ p : Regrown, w'' = Go.Sort.grow (redrawn V p.d) p.os) := fun d os => Calls.regrown_of ((HU.out _ (hbV.trans ((below_regrown V d os).mono hbV.size))).mono fun e w' h => RetT.eq h)
  have hsX := txB_size X
  have hqX := mkHid (txB_list X)
  have hsY := txB_size Y
  have hqY := mkHid (txB_list Y)
  generalize txB X = q at *
  generalize txB Y = r at *
  have g5 : V.cell? ⟨w.heap.size, 5, none⟩ = some (.slice (some b) 2 e5) := by rw [hV]; simp
  have e0 : b.add 0 = b := by simp [Addr.add]
  have e1 : b.add 1 = ⟨b.block, b.off + 1, none⟩ := by simp [Addr.add]
  rw [e0] at ck
  rw [e1] at ck'
  have s0 := (hbV.cell (p := b) hb1).trans ck
  have s1 := (hbV.cell (p := ⟨b.block, b.off + 1, none⟩) hb1).trans ck'
  have kg5 := cell_regrown g5
  have ks0 := cell_regrown s0
  have ks1 := cell_regrown s1
  have n0 : ¬ 9223372036854775807 < 3 + q.size := by omega
  have n1 : ¬ 9223372036854775807 < 3 + q.size + 1 := by omega
  have n2 : ¬ 9223372036854775807 < 3 + q.size + 1 + r.size := by omega
  replace hV := mkHid hV
  go_enter Tryz.func11, Tryz.ntmps11
  go_wp2
  rw [← hV.out]
  refine wp_region_quiet_below (by kernel_rfl) (by kernel_rfl) ?_
  iterate 5 (go_big_quiet_step (fail))
  go_big_quiet_step (exact cX.out _ _)
  iterate 7 (go_big_quiet_step (fail))
  go_big_quiet_step (exact cY.out _ _)
  repeat (go_big_quiet_step (fail))
  refine wpQuiet_nil ?_
  intro _ hw'
  obtain ⟨⟨dq, osq⟩, hw''⟩ := hw'
  subst hw''
  go_wp2
  go_ret
  refine ⟨_, rfl, ?_, hbV.trans ((below_regrown V dq osq).mono hbV.size)⟩
  simp only [cat_list, hqX.out, hqY.out]
  rfl
theorem join_snoc (l : List (List UInt8)) (x : List UInt8) (h : l ≠ []) : join (l ++ [x]) [32] = join l [32] ++ [32] ++ x := by
  cases l with
  | nil => exact absurd rfl h
  | cons y r =>
    rw [List.cons_append, join_cons, join_cons]
    simp [joinTail, List.append_assoc]
theorem one_take (l : List (List UInt8)) (k : Nat) : Qw.one (l.take k) ≤ Qw.one l := by
  have := Qw.one_append (l.take k) (l.drop k)
  rw [List.take_append_drop] at this
  omega
set_option maxHeartbeats 4000000 in
set_option maxRecDepth 20000 in
theorem spW16 (o : Option Addr) (F : List GQueryNode) (cap lo i : Nat) (wh : Bool) (w : World) (hi : i < F.length) (hF : GQueryNodesL lo w.heap.size w o F) (hk : F[i].kind = 16) (T : Int → List UInt8) (hlen : F[i].kids.length ≤ 1000000) (hX : Qw.one (F[i].kids.map T) ≤ 1000000) (hT : ∀ k ∈ F[i].kids, KidT o F.length cap w k (T k)) :
    Calls Tryz.prog 11 #[.slice o F.length cap, .int .i64 i, .bool wh] w (RetT (if wh then join (F[i].kids.map T) [32] else 40 :: join (F[i].kids.map T) [32] ++ [41]) w) := by
  obtain ⟨a, v4, v5, rfl, ha0, ha, hA, hI⟩ := hF i hi
  obtain ⟨⟨a4, e4, rfl, t4⟩, ⟨a5, e5, rfl, t5⟩⟩ := hI
  have c0 := hA.c0
  have c1 := hA.c1
  have c2 := hA.c2
  have c3 := hA.c3
  have c4 := hA.c4
  have c5 := hA.c5
  clear hA hF t4
  generalize F[i] = n at *
  obtain ⟨kd, nm, tx, nu, us, ks⟩ := n
  dsimp only at *
  subst hk
  have HT := mkHid hT
  have T5 := mkHid t5
  have HX := mkHid hX
  clear hT t5 hX
  obtain ⟨V, hV⟩ : ∃ V, V = w.alloc (.cells #[.int .i64 16, .string nm, .string tx, .int .i64 nu, .slice a4 us.length e4, .slice a5 ks.length e5] 38) := ⟨_, rfl⟩
  have hbV : Below w.heap.size w V := by rw [hV]; exact (Below.refl w.heap.size w).alloc (Nat.le_refl _) _
  have g5 : V.cell? ⟨w.heap.size, 5, none⟩ = some (.slice a5 ks.length e5) := by rw [hV]; simp
  have hgl : w.heap.size < V.heap.size := by rw [hV]; simp
  replace hV := mkHid hV
  obtain ⟨R, hR⟩ : ∃ R, (if wh then join (ks.map T) [32] else 40 :: join (ks.map T) [32] ++ [41]) = R := ⟨_, rfl⟩
  rw [hR]
  replace hR := mkHid hR
  go_enter Tryz.func11, Tryz.ntmps11
  go_wp2
  rw [← hV.out]
  clear c0 c1 c2 c3 c4 c5
  generalize hG : w.heap.size = G at *
  go_loopw [13, 14] (fun ov kv wr => ∃ (k : Nat) (q : ByteArray), k ≤ ks.length ∧ kv = .int .i64 k ∧ ov = .string q ∧ Hid (q.data.toList = join ((ks.map T).take k) [32]) ∧ Hid (Below V.heap.size V wr)) (fun _ kv _ => ks.length - (Lib.intOf kv).toNat)
  case atStart => exact ⟨0, ⟨#[]⟩, Nat.zero_le _, rfl, rfl, rfl, Below.refl _ _⟩
  case round =>
    obtain ⟨k, q, hk, rfl, rfl, hq, hb⟩ := hrel
    have r5 := (hb.out.cell (p := ⟨G, 5, none⟩) hgl).trans g5
    have hbw : Hid (Below G w wr) := show Below _ _ _ from hbV.trans (hb.out.mono (by omega))
    have hqs : q.size ≤ 1000000 := by
      have h1 : q.data.toList.length = q.size := by simp
      have h2 := Qw.join_len ((ks.map T).take k)
      have h3 := one_take (ks.map T) k
      have h4 := HX.out
      rw [hq.out] at h1
      omega
    by_cases hkl : k < ks.length
    · obtain ⟨b, rfl, hb0, hb1, ck⟩ := (T5.out.below hbw.out (Nat.le_refl _)) k hkl
      have cK := mkHid ((HT.out ks[k] (List.getElem_mem hkl) wr (by rw [hG]; exact hbw.out)).mono fun e w' h => RetT.eq h)
      have hTs : (T ks[k]).length ≤ 1000000 := by
        have h1 := Qw.one_append ((ks.map T).take k) ((ks.map T).drop k)
        rw [List.take_append_drop] at h1
        have h2 : (ks.map T).drop k = T ks[k] :: (ks.map T).drop (k + 1) := by
          rw [List.drop_eq_getElem_cons (by simpa using hkl), List.getElem_map]
        rw [h2] at h1
        have h3 : (T ks[k]).length ≤ Qw.one (T ks[k] :: (ks.map T).drop (k + 1)) := by
          unfold Qw.one lens
          simp only [List.map_cons, List.sum_cons, List.length_cons]
          omega
        have h4 := HX.out
        omega
      have htk : Hid ((ks.map T).take (k + 1) = (ks.map T).take k ++ [T ks[k]]) := show _ = _ from by
        rw [List.take_succ_eq_append_getElem (by simpa using hkl), List.getElem_map]
      have hss := txB_size (T ks[k])
      have hsl := mkHid (txB_list (T ks[k]))
      generalize T ks[k] = X at *
      generalize ks[k] = kid at *
      generalize txB X = t at *
      by_cases hk0 : k = 0
      · have b0 : decide ((0 : Int) < (k : Int)) = false := by simp; omega
        have hni : ¬ 0 < k := by omega
        have hq0 : Hid (q.data.toList = []) := show _ = _ from by rw [hq.out, hk0]; simp [join_nil]
        have ht0 : Hid ((ks.map T).take k = []) := show _ = _ from by rw [hk0]; simp
        replace hk0 := mkHid hk0
        go_wp2_with fail
        refine cK.out.mono ?_
        rintro e w1 ⟨rfl, hb2⟩
        have hb3 := mkHid (hb.out.trans (hb2.mono hb.out.size))
        go_wp2
        go_roundw
        case rel =>
          refine ⟨k + 1, q ++ t, by omega, by go_num, rfl, ?_, hb3⟩
          show _ = _
          rw [htk.out, ht0.out, cat_list, hq0.out, hsl.out, List.nil_append, List.nil_append, join_one]
        case measure => simp [Lib.intOf]; omega
      · have b0 : decide ((0 : Int) < (k : Int)) = true := by simp; omega
        have hni : 0 < k := by omega
        have hne : Hid ((ks.map T).take k ≠ []) := show _ ≠ _ from by
          intro e
          have := congrArg List.length e
          rw [List.length_take, List.length_map, List.length_nil] at this
          omega
        go_wp2_with fail
        refine cK.out.mono ?_
        rintro e w1 ⟨rfl, hb2⟩
        have hb3 := mkHid (hb.out.trans (hb2.mono hb.out.size))
        go_wp2
        go_roundw
        case rel =>
          refine ⟨k + 1, q ++ ⟨#[32]⟩ ++ t, by omega, by go_num, rfl, ?_, hb3⟩
          show _ = _
          rw [htk.out, join_snoc _ _ hne.out, cat_list, cat_list, hq.out, hsl.out]
        case measure => simp [Lib.intOf]; omega
    · have hqe : Hid (q.data.toList = join (ks.map T) [32]) := show _ = _ from by rw [hq.out, List.take_of_length_le (by simp; omega)]
      clear hq
      cases wh
      · go_wp2
        go_ret
        refine ⟨_, rfl, ?_, by first | exact hbw.out | (rw [hG]; exact hbw.out)⟩
        rw [← hR.out, cat_list, cat_list, hqe.out]
        rfl
      · go_wp2
        go_ret
        refine ⟨_, rfl, ?_, by first | exact hbw.out | (rw [hG]; exact hbw.out)⟩
        rw [← hR.out]
        exact hqe.out
end Go.Proofs.YtfaeckaeaeadeaaGreatDoor
