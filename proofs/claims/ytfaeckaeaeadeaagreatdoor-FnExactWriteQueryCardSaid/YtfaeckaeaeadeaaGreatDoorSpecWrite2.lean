
/- The specification's l14Write at the kinds that have neither a name nor kids. (By tools/gen/specwrite.py.) -/
import Derived.Test.YtfaeckaeaeadeaaGreatDoorSpecWrite1
namespace Go.Proofs.YtfaeckaeaeadeaaGreatDoor
open Go.RowKit Go.Lib Go.Maps
theorem cat_list (a b : ByteArray) : (a ++ b).data.toList = a.data.toList ++ b.data.toList := by simp
set_option maxHeartbeats 2000000 in
set_option maxRecDepth 20000 in
theorem spW1 (o : Option Addr) (F : List GQueryNode) (cap lo i : Nat) (wh : Bool) (w : World) (hi : i < F.length) (hF : GQueryNodesL lo w.heap.size w o F) (hk : F[i].kind = 1) :
    Calls Tryz.prog 11 #[.slice o F.length cap, .int .i64 i, .bool wh] w (RetT ([65, 76, 76]) w) := by
  obtain ⟨a, v4, v5, rfl, ha0, ha, hA, hI⟩ := hF i hi
  obtain ⟨⟨a4, e4, rfl, t4⟩, ⟨a5, e5, rfl, t5⟩⟩ := hI
  have c0 := hA.c0
  have c1 := hA.c1
  have c2 := hA.c2
  have c3 := hA.c3
  have c4 := hA.c4
  have c5 := hA.c5
  clear hA hF t5
  generalize F[i] = n at *
  obtain ⟨kd, nm, tx, nu, us, ks⟩ := n
  dsimp only at *
  subst hk
  clear t4
  go_enter Tryz.func11, Tryz.ntmps11
  go_wp2
  go_ret
  exact ⟨_, rfl, rfl, (Below.refl _ _).alloc (Nat.le_refl _) _⟩
set_option maxHeartbeats 2000000 in
set_option maxRecDepth 20000 in
theorem spW5 (o : Option Addr) (F : List GQueryNode) (cap lo i : Nat) (wh : Bool) (w : World) (hi : i < F.length) (hF : GQueryNodesL lo w.heap.size w o F) (hk : F[i].kind = 5) (hs : F[i].text.size ≤ 200) :
    Calls Tryz.prog 11 #[.slice o F.length cap, .int .i64 i, .bool wh] w (RetT ([66, 79, 68, 89, 32] ++ Qw.quote F[i].text) w) := by
  obtain ⟨a, v4, v5, rfl, ha0, ha, hA, hI⟩ := hF i hi
  obtain ⟨⟨a4, e4, rfl, t4⟩, ⟨a5, e5, rfl, t5⟩⟩ := hI
  have c0 := hA.c0
  have c1 := hA.c1
  have c2 := hA.c2
  have c3 := hA.c3
  have c4 := hA.c4
  have c5 := hA.c5
  clear hA hF t5
  generalize F[i] = n at *
  obtain ⟨kd, nm, tx, nu, us, ks⟩ := n
  dsimp only at *
  subst hk
  clear t4
  have cQ := mkHid (fun w => specQuote tx w (by omega))
  have hql := Qw.qs_le tx.data.toList
  obtain ⟨q, hq0⟩ : ∃ q : ByteArray, (⟨(34 :: Pl.qs tx.data.toList ++ [34]).toArray⟩ : ByteArray) = q := ⟨_, rfl⟩
  have hq : Hid (q.data.toList = Qw.quote tx) := show _ = _ from by rw [← hq0]; rfl
  have hqs : q.size ≤ 402 := by
    have h1 : tx.data.toList.length = tx.size := by simp
    rw [← hq0]
    show (34 :: Pl.qs tx.data.toList ++ [34]).toArray.size ≤ 402
    simp
    omega
  rw [hq0] at cQ
  clear hq0 hql
  replace hq := hq.out
  replace hq := mkHid hq
  go_enter Tryz.func11, Tryz.ntmps11
  go_wp2_with fail
  refine (cQ.out _).mono ?_
  rintro e w1 ⟨rfl, hb1⟩
  go_wp2
  go_ret
  exact ⟨_, rfl, by rw [cat_list, hq.out]; rfl, ((Below.refl _ _).alloc (Nat.le_refl _) _).trans (hb1.mono (by simp))⟩
set_option maxHeartbeats 2000000 in
set_option maxRecDepth 20000 in
theorem spW6 (o : Option Addr) (F : List GQueryNode) (cap lo i : Nat) (wh : Bool) (w : World) (hi : i < F.length) (hF : GQueryNodesL lo w.heap.size w o F) (hk : F[i].kind = 6) (hs : F[i].text.size ≤ 200) :
    Calls Tryz.prog 11 #[.slice o F.length cap, .int .i64 i, .bool wh] w (RetT ([84, 69, 88, 84, 32] ++ Qw.quote F[i].text) w) := by
  obtain ⟨a, v4, v5, rfl, ha0, ha, hA, hI⟩ := hF i hi
  obtain ⟨⟨a4, e4, rfl, t4⟩, ⟨a5, e5, rfl, t5⟩⟩ := hI
  have c0 := hA.c0
  have c1 := hA.c1
  have c2 := hA.c2
  have c3 := hA.c3
  have c4 := hA.c4
  have c5 := hA.c5
  clear hA hF t5
  generalize F[i] = n at *
  obtain ⟨kd, nm, tx, nu, us, ks⟩ := n
  dsimp only at *
  subst hk
  clear t4
  have cQ := mkHid (fun w => specQuote tx w (by omega))
  have hql := Qw.qs_le tx.data.toList
  obtain ⟨q, hq0⟩ : ∃ q : ByteArray, (⟨(34 :: Pl.qs tx.data.toList ++ [34]).toArray⟩ : ByteArray) = q := ⟨_, rfl⟩
  have hq : Hid (q.data.toList = Qw.quote tx) := show _ = _ from by rw [← hq0]; rfl
  have hqs : q.size ≤ 402 := by
    have h1 : tx.data.toList.length = tx.size := by simp
    rw [← hq0]
    show (34 :: Pl.qs tx.data.toList ++ [34]).toArray.size ≤ 402
    simp
    omega
  rw [hq0] at cQ
  clear hq0 hql
  replace hq := hq.out
  replace hq := mkHid hq
  go_enter Tryz.func11, Tryz.ntmps11
  go_wp2_with fail
  refine (cQ.out _).mono ?_
  rintro e w1 ⟨rfl, hb1⟩
  go_wp2
  go_ret
  exact ⟨_, rfl, by rw [cat_list, hq.out]; rfl, ((Below.refl _ _).alloc (Nat.le_refl _) _).trans (hb1.mono (by simp))⟩
set_option maxHeartbeats 2000000 in
set_option maxRecDepth 20000 in
theorem spW7 (o : Option Addr) (F : List GQueryNode) (cap lo i : Nat) (wh : Bool) (w : World) (hi : i < F.length) (hF : GQueryNodesL lo w.heap.size w o F) (hk : F[i].kind = 7) (h0 : 0 ≤ F[i].num) (h1 : F[i].num ≤ 2932896) :
    Calls Tryz.prog 11 #[.slice o F.length cap, .int .i64 i, .bool wh] w (RetT ([83, 73, 78, 67, 69, 32] ++ Qw.dy F[i].num) w) := by
  obtain ⟨a, v4, v5, rfl, ha0, ha, hA, hI⟩ := hF i hi
  obtain ⟨⟨a4, e4, rfl, t4⟩, ⟨a5, e5, rfl, t5⟩⟩ := hI
  have c0 := hA.c0
  have c1 := hA.c1
  have c2 := hA.c2
  have c3 := hA.c3
  have c4 := hA.c4
  have c5 := hA.c5
  clear hA hF t5
  generalize F[i] = n at *
  obtain ⟨kd, nm, tx, nu, us, ks⟩ := n
  dsimp only at *
  subst hk
  clear t4
  have cQ := mkHid (fun w => specDate14 nu w h0 h1)
  have hqs := dayT_size nu ⟨#[45]⟩ rfl h0 h1
  obtain ⟨q, hq0⟩ : ∃ q : ByteArray, dayT nu ⟨#[45]⟩ = q := ⟨_, rfl⟩
  have hq : Hid (q.data.toList = Qw.dy nu) := show _ = _ from by rw [← hq0]; rfl
  rw [hq0] at cQ hqs
  clear hq0
  replace hq := hq.out
  replace hq := mkHid hq
  go_enter Tryz.func11, Tryz.ntmps11
  go_wp2_with fail
  refine (cQ.out _).mono ?_
  rintro e w1 ⟨rfl, hb1⟩
  go_wp2
  go_ret
  exact ⟨_, rfl, by rw [cat_list, hq.out]; rfl, ((Below.refl _ _).alloc (Nat.le_refl _) _).trans (hb1.mono (by simp))⟩
set_option maxHeartbeats 2000000 in
set_option maxRecDepth 20000 in
theorem spW8 (o : Option Addr) (F : List GQueryNode) (cap lo i : Nat) (wh : Bool) (w : World) (hi : i < F.length) (hF : GQueryNodesL lo w.heap.size w o F) (hk : F[i].kind = 8) (h0 : 0 ≤ F[i].num) (h1 : F[i].num ≤ 2932896) :
    Calls Tryz.prog 11 #[.slice o F.length cap, .int .i64 i, .bool wh] w (RetT ([66, 69, 70, 79, 82, 69, 32] ++ Qw.dy F[i].num) w) := by
  obtain ⟨a, v4, v5, rfl, ha0, ha, hA, hI⟩ := hF i hi
  obtain ⟨⟨a4, e4, rfl, t4⟩, ⟨a5, e5, rfl, t5⟩⟩ := hI
  have c0 := hA.c0
  have c1 := hA.c1
  have c2 := hA.c2
  have c3 := hA.c3
  have c4 := hA.c4
  have c5 := hA.c5
  clear hA hF t5
  generalize F[i] = n at *
  obtain ⟨kd, nm, tx, nu, us, ks⟩ := n
  dsimp only at *
  subst hk
  clear t4
  have cQ := mkHid (fun w => specDate14 nu w h0 h1)
  have hqs := dayT_size nu ⟨#[45]⟩ rfl h0 h1
  obtain ⟨q, hq0⟩ : ∃ q : ByteArray, dayT nu ⟨#[45]⟩ = q := ⟨_, rfl⟩
  have hq : Hid (q.data.toList = Qw.dy nu) := show _ = _ from by rw [← hq0]; rfl
  rw [hq0] at cQ hqs
  clear hq0
  replace hq := hq.out
  replace hq := mkHid hq
  go_enter Tryz.func11, Tryz.ntmps11
  go_wp2_with fail
  refine (cQ.out _).mono ?_
  rintro e w1 ⟨rfl, hb1⟩
  go_wp2
  go_ret
  exact ⟨_, rfl, by rw [cat_list, hq.out]; rfl, ((Below.refl _ _).alloc (Nat.le_refl _) _).trans (hb1.mono (by simp))⟩
set_option maxHeartbeats 2000000 in
set_option maxRecDepth 20000 in
theorem spW9 (o : Option Addr) (F : List GQueryNode) (cap lo i : Nat) (wh : Bool) (w : World) (hi : i < F.length) (hF : GQueryNodesL lo w.heap.size w o F) (hk : F[i].kind = 9) (h0 : 0 ≤ F[i].num) (h1 : F[i].num ≤ 2932896) :
    Calls Tryz.prog 11 #[.slice o F.length cap, .int .i64 i, .bool wh] w (RetT ([79, 78, 32] ++ Qw.dy F[i].num) w) := by
  obtain ⟨a, v4, v5, rfl, ha0, ha, hA, hI⟩ := hF i hi
  obtain ⟨⟨a4, e4, rfl, t4⟩, ⟨a5, e5, rfl, t5⟩⟩ := hI
  have c0 := hA.c0
  have c1 := hA.c1
  have c2 := hA.c2
  have c3 := hA.c3
  have c4 := hA.c4
  have c5 := hA.c5
  clear hA hF t5
  generalize F[i] = n at *
  obtain ⟨kd, nm, tx, nu, us, ks⟩ := n
  dsimp only at *
  subst hk
  clear t4
  have cQ := mkHid (fun w => specDate14 nu w h0 h1)
  have hqs := dayT_size nu ⟨#[45]⟩ rfl h0 h1
  obtain ⟨q, hq0⟩ : ∃ q : ByteArray, dayT nu ⟨#[45]⟩ = q := ⟨_, rfl⟩
  have hq : Hid (q.data.toList = Qw.dy nu) := show _ = _ from by rw [← hq0]; rfl
  rw [hq0] at cQ hqs
  clear hq0
  replace hq := hq.out
  replace hq := mkHid hq
  go_enter Tryz.func11, Tryz.ntmps11
  go_wp2_with fail
  refine (cQ.out _).mono ?_
  rintro e w1 ⟨rfl, hb1⟩
  go_wp2
  go_ret
  exact ⟨_, rfl, by rw [cat_list, hq.out]; rfl, ((Below.refl _ _).alloc (Nat.le_refl _) _).trans (hb1.mono (by simp))⟩
set_option maxHeartbeats 2000000 in
set_option maxRecDepth 20000 in
theorem spW10 (o : Option Addr) (F : List GQueryNode) (cap lo i : Nat) (wh : Bool) (w : World) (hi : i < F.length) (hF : GQueryNodesL lo w.heap.size w o F) (hk : F[i].kind = 10) (h0 : 0 ≤ F[i].num) (h1 : F[i].num ≤ 9999999999) :
    Calls Tryz.prog 11 #[.slice o F.length cap, .int .i64 i, .bool wh] w (RetT ([76, 65, 82, 71, 69, 82, 32] ++ decDigits F[i].num.toNat) w) := by
  obtain ⟨a, v4, v5, rfl, ha0, ha, hA, hI⟩ := hF i hi
  obtain ⟨⟨a4, e4, rfl, t4⟩, ⟨a5, e5, rfl, t5⟩⟩ := hI
  have c0 := hA.c0
  have c1 := hA.c1
  have c2 := hA.c2
  have c3 := hA.c3
  have c4 := hA.c4
  have c5 := hA.c5
  clear hA hF t5
  generalize F[i] = n at *
  obtain ⟨kd, nm, tx, nu, us, ks⟩ := n
  dsimp only at *
  subst hk
  clear t4
  obtain ⟨m, rfl⟩ : ∃ m : Nat, nu = (m : Int) := ⟨nu.toNat, by omega⟩
  rw [Int.toNat_natCast]
  have cQ := mkHid (fun w => specDec m (by omega) w)
  have hdl : (decDigits m).length ≤ 10 := Rg.dec_small m (by omega)
  obtain ⟨q, hq0⟩ : ∃ q : ByteArray, (⟨(decDigits m).toArray⟩ : ByteArray) = q := ⟨_, rfl⟩
  have hq : Hid (q.data.toList = decDigits m) := show _ = _ from by rw [← hq0]
  have hqs : q.size ≤ 10 := by rw [← hq0]; show (decDigits m).toArray.size ≤ 10; simpa using hdl
  rw [hq0] at cQ
  clear hq0 hdl h0 h1
  replace hq := hq.out
  replace hq := mkHid hq
  go_enter Tryz.func11, Tryz.ntmps11
  go_wp2_with fail
  refine (cQ.out _).mono ?_
  rintro e w1 ⟨rfl, hb1⟩
  go_wp2
  go_ret
  exact ⟨_, rfl, by rw [cat_list, hq.out]; rfl, ((Below.refl _ _).alloc (Nat.le_refl _) _).trans (hb1.mono (by simp))⟩
set_option maxHeartbeats 2000000 in
set_option maxRecDepth 20000 in
theorem spW11 (o : Option Addr) (F : List GQueryNode) (cap lo i : Nat) (wh : Bool) (w : World) (hi : i < F.length) (hF : GQueryNodesL lo w.heap.size w o F) (hk : F[i].kind = 11) (h0 : 0 ≤ F[i].num) (h1 : F[i].num ≤ 9999999999) :
    Calls Tryz.prog 11 #[.slice o F.length cap, .int .i64 i, .bool wh] w (RetT ([83, 77, 65, 76, 76, 69, 82, 32] ++ decDigits F[i].num.toNat) w) := by
  obtain ⟨a, v4, v5, rfl, ha0, ha, hA, hI⟩ := hF i hi
  obtain ⟨⟨a4, e4, rfl, t4⟩, ⟨a5, e5, rfl, t5⟩⟩ := hI
  have c0 := hA.c0
  have c1 := hA.c1
  have c2 := hA.c2
  have c3 := hA.c3
  have c4 := hA.c4
  have c5 := hA.c5
  clear hA hF t5
  generalize F[i] = n at *
  obtain ⟨kd, nm, tx, nu, us, ks⟩ := n
  dsimp only at *
  subst hk
  clear t4
  obtain ⟨m, rfl⟩ : ∃ m : Nat, nu = (m : Int) := ⟨nu.toNat, by omega⟩
  rw [Int.toNat_natCast]
  have cQ := mkHid (fun w => specDec m (by omega) w)
  have hdl : (decDigits m).length ≤ 10 := Rg.dec_small m (by omega)
  obtain ⟨q, hq0⟩ : ∃ q : ByteArray, (⟨(decDigits m).toArray⟩ : ByteArray) = q := ⟨_, rfl⟩
  have hq : Hid (q.data.toList = decDigits m) := show _ = _ from by rw [← hq0]
  have hqs : q.size ≤ 10 := by rw [← hq0]; show (decDigits m).toArray.size ≤ 10; simpa using hdl
  rw [hq0] at cQ
  clear hq0 hdl h0 h1
  replace hq := hq.out
  replace hq := mkHid hq
  go_enter Tryz.func11, Tryz.ntmps11
  go_wp2_with fail
  refine (cQ.out _).mono ?_
  rintro e w1 ⟨rfl, hb1⟩
  go_wp2
  go_ret
  exact ⟨_, rfl, by rw [cat_list, hq.out]; rfl, ((Below.refl _ _).alloc (Nat.le_refl _) _).trans (hb1.mono (by simp))⟩
set_option maxHeartbeats 2000000 in
set_option maxRecDepth 20000 in
theorem spW13 (o : Option Addr) (F : List GQueryNode) (cap lo i : Nat) (wh : Bool) (w : World) (hi : i < F.length) (hF : GQueryNodesL lo w.heap.size w o F) (hk : F[i].kind = 13) (h0 : 0 ≤ F[i].num) (h1 : F[i].num ≤ 9999999999) :
    Calls Tryz.prog 11 #[.slice o F.length cap, .int .i64 i, .bool wh] w (RetT ([77, 79, 68, 83, 69, 81, 32] ++ decDigits F[i].num.toNat) w) := by
  obtain ⟨a, v4, v5, rfl, ha0, ha, hA, hI⟩ := hF i hi
  obtain ⟨⟨a4, e4, rfl, t4⟩, ⟨a5, e5, rfl, t5⟩⟩ := hI
  have c0 := hA.c0
  have c1 := hA.c1
  have c2 := hA.c2
  have c3 := hA.c3
  have c4 := hA.c4
  have c5 := hA.c5
  clear hA hF t5
  generalize F[i] = n at *
  obtain ⟨kd, nm, tx, nu, us, ks⟩ := n
  dsimp only at *
  subst hk
  clear t4
  obtain ⟨m, rfl⟩ : ∃ m : Nat, nu = (m : Int) := ⟨nu.toNat, by omega⟩
  rw [Int.toNat_natCast]
  have cQ := mkHid (fun w => specDec m (by omega) w)
  have hdl : (decDigits m).length ≤ 10 := Rg.dec_small m (by omega)
  obtain ⟨q, hq0⟩ : ∃ q : ByteArray, (⟨(decDigits m).toArray⟩ : ByteArray) = q := ⟨_, rfl⟩
  have hq : Hid (q.data.toList = decDigits m) := show _ = _ from by rw [← hq0]
  have hqs : q.size ≤ 10 := by rw [← hq0]; show (decDigits m).toArray.size ≤ 10; simpa using hdl
  rw [hq0] at cQ
  clear hq0 hdl h0 h1
  replace hq := hq.out
  replace hq := mkHid hq
  go_enter Tryz.func11, Tryz.ntmps11
  go_wp2_with fail
  refine (cQ.out _).mono ?_
  rintro e w1 ⟨rfl, hb1⟩
  go_wp2
  go_ret
  exact ⟨_, rfl, by rw [cat_list, hq.out]; rfl, ((Below.refl _ _).alloc (Nat.le_refl _) _).trans (hb1.mono (by simp))⟩
set_option maxHeartbeats 2000000 in
set_option maxRecDepth 20000 in
theorem spW12 (o : Option Addr) (F : List GQueryNode) (cap lo i : Nat) (wh : Bool) (w : World) (hi : i < F.length) (hF : GQueryNodesL lo w.heap.size w o F) (hk : F[i].kind = 12) (hr : Rg.rsOk F[i].uids = true) (hf : F[i].fits 1048576) :
    Calls Tryz.prog 11 #[.slice o F.length cap, .int .i64 i, .bool wh] w (RetT ([85, 73, 68, 32] ++ Rg.wr F[i].uids) w) := by
  obtain ⟨a, v4, v5, rfl, ha0, ha, hA, hI⟩ := hF i hi
  obtain ⟨⟨a4, e4, rfl, t4⟩, ⟨a5, e5, rfl, t5⟩⟩ := hI
  have c0 := hA.c0
  have c1 := hA.c1
  have c2 := hA.c2
  have c3 := hA.c3
  have c4 := hA.c4
  have c5 := hA.c5
  clear hA hF t5
  generalize F[i] = n at *
  obtain ⟨kd, nm, tx, nu, us, ks⟩ := n
  dsimp only at *
  subst hk
  obtain ⟨-, -, f3, f4, -⟩ := hf
  have cQ := mkHid (fun (w' : World) (hb : Below w.heap.size w w') => specWriteRanges a4 us e4 lo w' ((t4.below hb (Nat.le_refl _)).mono (Nat.le_refl _) hb.size) f3 f4)
  have hwl := Qw.wr_le us hr
  obtain ⟨q, hq0⟩ : ∃ q : ByteArray, plWriteRanges us = q := ⟨_, rfl⟩
  have hq : Hid (q.data.toList = Rg.wr us) := show _ = _ from by rw [← hq0, plWriteRanges, if_pos hr]
  have hqs : q.size ≤ 2200 := by
    have h1 : q.data.toList.length = q.size := by simp
    rw [hq.out] at h1
    omega
  rw [hq0] at cQ
  clear hq0 hwl t4
  replace hq := hq.out
  replace hq := mkHid hq
  go_enter Tryz.func11, Tryz.ntmps11
  go_wp2_with fail
  refine (cQ.out _ ((Below.refl _ _).alloc (Nat.le_refl _) _)).mono ?_
  rintro e w1 ⟨rfl, hb1⟩
  go_wp2
  go_ret
  exact ⟨_, rfl, by rw [cat_list, hq.out]; rfl, ((Below.refl _ _).alloc (Nat.le_refl _) _).trans (hb1.mono (by simp))⟩
end Go.Proofs.YtfaeckaeaeadeaaGreatDoor
