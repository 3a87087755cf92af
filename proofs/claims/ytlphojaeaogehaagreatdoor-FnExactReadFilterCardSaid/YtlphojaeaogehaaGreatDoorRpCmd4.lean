
/- The program's reader of a script: commands with a text. (By tools/gen/rptest.py.) -/

/- The program's reader of a script: the command set. (By tools/gen/rptest.py.) -/
import Derived.Test.YtlphojaeaogehaaGreatDoorRpCmd2
namespace Go.Proofs.YtlphojaeaogehaaGreatDoor
open Go.RowKit Go.Lib Go.Maps
set_option maxRecDepth 20000 in
set_option maxHeartbeats 8000000 in
theorem prCmd7 (g : Nat) (s : ByteArray) (l : List UInt8) (T : List Rf.Tk) (f : Nat) (t c : Nat → List Nd → Rf.Out) (hl : s.data.toList = l) (hs : s.size ≤ 100000) (hT : T.length ≤ 30000) (hXc : Rf.Kx T (Rf.cho T t c T.length)) (hCho : PrC 56 g s l T f (Rf.cho T t c T.length)) (hBlk : PrC 58 g s l T f (Rf.blk T c)) (hGT : GoodT T) (n kd : Nat) (x : List UInt8) (a : Nat) (v : Value) (E : List NdE) (w : World) (h : Ps g s l T n kd x a v E w) (hG : Gl g w) (hf : T.length ≤ n + (f + 1)) (hE : E.length ≤ 3 * n + 5) (hw : (kd == 1 && Fn.isCmd (Rf.lk x)) = true) (hk : Rf.lk x = 7) (h1 : (x == Rf.wIf) = false) (h2 : (x == Rf.wRepeat) = false) (h3 : (x == Rf.wSet) = false) (h4 : Rf.cmdK x = Rf.lk x) :
    Calls Tryz.prog 35 #[scp g] w fun e w' => Ef g v.ownBlock w w' ∧ PrO g s l T n v E w (Rf.cmd T t c n (E.map (·.1))) e w' := by
  obtain ⟨q1, q2, -⟩ := h.cur.cmd.1 hw
  obtain ⟨R, hR⟩ : ∃ R, Rf.cmd T t c n (E.map (·.1)) = R := ⟨_, rfl⟩
  rw [hR]
  rw [Rf.cmd_two T t c n _ 7 q1 (by rw [q2]; exact h1) (by rw [q2]; exact h2) (by rw [q2]; exact h3) (by rw [q2, h4, hk]) (by decide) (by decide)] at hR
  have kK := mkHid (prKind kindCmd h hl hs hG.ft (fun _ => by rw [q1]; exact ⟨by decide, by decide⟩))
  rw [hw, hk] at kK
  have F0 := mkHid (Pf.start h hG)
  have hgl := h.sc.lt
  have HR := mkHid hR
  have HC := mkHid hCho
  have HX := mkHid hXc
  have HL := mkHid hBlk
  have HG := mkHid hGT
  have _hf := hf
  have _hT := hT
  have _hE := hE
  clear h hG q1 q2 hw hk hR hCho hXc hGT hBlk
  go_enter Tryz.func35, Tryz.ntmps35
  go_wp2_with (go_at_call 54; fail)
  refine kK.out.mono ?_
  rintro e w1 ⟨e1, ⟨h0, -⟩ | ⟨-, ⟨kd1, x1, a1, rfl, h1⟩ | hx⟩⟩
  · cases h0
  · obtain ⟨B, hB⟩ : ∃ B, w1.heap.size = B := ⟨_, rfl⟩
    obtain ⟨W0, hW0⟩ : ∃ W0, w1.alloc (.cells #[.int .i64 7, .int .i64 0, .int .i64 0, .string ⟨#[]⟩, .slice none 0 0, .slice none 0 0, .slice none 0 0] 37) = W0 := ⟨_, rfl⟩
    have b0 : Below w1.heap.size w1 W0 := by rw [← hW0]; exact (Below.refl _ _).alloc (Nat.le_refl _) _
    have F2 := mkHid ((F0.out.small (by rw [List.append_nil]; exact h1) e1).below b0)
    have P0 : Hid (Pb w B #[.int .i64 7, .int .i64 0, .int .i64 0, .string ⟨#[]⟩, .slice none 0 0, .slice none 0 0, .slice none 0 0] v W0) := by show Pb w B _ v W0; rw [← hW0, ← hB]; exact Pb.new h1 e1.size
    obtain ⟨kd0, x0, a0, p0⟩ := F2.out.ps
    have hn1 := p0.cur.lt
    have HW0 := mkHid hW0
    have HB := mkHid hB
    have HP0 := mkHid p0
    clear h1 e1 b0 hB hW0 kK F0 p0
    have kY := mkHid (prSaying HP0.out hl hs)
    clear HP0
    go_wp2_with (go_at_call 61; fail)
    rw [HW0.out, HB.out]
    clear HW0
    refine kY.out.mono ?_
    rintro e w2 ⟨e2, ⟨h0, rfl⟩ | ⟨h0, ⟨kd2, x2, a2, rfl, h2⟩ | hx⟩⟩
    · refine ⟨rfl, F2.out.ef.trans F2.out.nw e2.weak, PrO.bad ?_⟩
      rw [← HR.out, if_neg (Bool.eq_false_iff.1 h0)]
    · have hR1 := HR.out
      obtain ⟨tx, htx⟩ : ∃ tx, Rf.ba (Rf.text T (n + 1)) = tx := ⟨_, rfl⟩
      rw [if_pos (by rw [h0]; rfl), htx] at hR1
      rw [htx]
      have F3 := F2.out.small h2 e2
      have P3 := mkHid (P0.out.ef hgl e2 (.inl rfl))
      have F4 := mkHid (F3.set P3.out 3 (.string tx))
      have P4 : Hid (Pb w B #[.int .i64 7, .int .i64 0, .int .i64 0, .string tx, .slice none 0 0, .slice none 0 0, .slice none 0 0] v (w2.setCell ⟨B, 3, none⟩ (.string tx))) := P3.out.set 3 (.string tx)
      have c3 : w2.cell? ⟨B, 3, none⟩ = some (.string ⟨#[]⟩) := P3.out.cell 3 _ rfl
      have z3 : w2.frozen? ⟨B, 3, none⟩ = false := P3.out.fz 3
      obtain ⟨V1, hV1⟩ : ∃ V, w2.setCell ⟨B, 3, none⟩ (.string tx) = V := ⟨_, rfl⟩
      rw [hV1] at F4 P4
      obtain ⟨kd4, x4, a4, h4⟩ := F4.out.ps
      replace HR := mkHid hR1
      have HV1 := mkHid hV1
      clear h0 h2 e2 kY hR1 F3 P3 hV1 F2 P0 htx
      have kS := mkHid (prSign h4 hl hs [59] (by decide) (by decide))
      rw [show Rf.cls [59] = 112 from rfl] at kS
      clear h4
      go_wp2_with (go_at_call 62; fail)
      rw [HV1.out]
      refine kS.out.mono ?_
      rintro e w7 ⟨e7, ⟨h0, rfl⟩ | ⟨h0, ⟨kd7, x7, a7, rfl, h7⟩ | hx⟩⟩
      · refine ⟨rfl, F4.out.ef.trans F4.out.nw e7.weak, PrO.bad ?_⟩
        rw [← HR.out, if_neg (Bool.eq_false_iff.1 h0)]
      · have hR7 := HR.out
        rw [if_pos h0] at hR7
        have hjT := h7.cur.lt
        have F8 := mkHid (F4.out.small h7 e7)
        have P8 := mkHid (P4.out.ef hgl e7 (.inl rfl))
        have hNz : Hid (R = .ok (n + 3) ((E ++ ([] : List NdE)).map (·.1) ++ [{ Rf.zn 7 with text := tx }])) := by show R = _; rw [← hR7, List.append_nil]
        have d0 : (w7).cell? ⟨B, 0, none⟩ = some (.int .i64 7) := P8.out.cell 0 _ rfl
        have d1 : (w7).cell? ⟨B, 1, none⟩ = some (.int .i64 0) := P8.out.cell 1 _ rfl
        have d2 : (w7).cell? ⟨B, 2, none⟩ = some (.int .i64 0) := P8.out.cell 2 _ rfl
        have d3 : (w7).cell? ⟨B, 3, none⟩ = some (.string tx) := P8.out.cell 3 _ rfl
        have d4 : (w7).cell? ⟨B, 4, none⟩ = some (.slice none 0 0) := P8.out.cell 4 _ rfl
        have d5 : (w7).cell? ⟨B, 5, none⟩ = some (.slice none 0 0) := P8.out.cell 5 _ rfl
        have d6 : (w7).cell? ⟨B, 6, none⟩ = some (.slice none 0 0) := P8.out.cell 6 _ rfl
        clear h0 h7 e7 hR7 P8 P4 F4 kS
        have kA := mkHid (F8.out.add { Rf.zn 7 with text := tx } rfl rfl rfl (by rw [List.length_append]; first | omega | (simp; omega)))
        have hRR : Hid (R = .ok (n + 3) ((E ++ ([] : List NdE)).map (·.1) ++ [{ Rf.zn 7 with text := tx }])) := hNz
        clear HR F8
        unfold ndV Rf.zn at kA
        dsimp only at kA
        go_wp2_with (go_at_call 36; fail)
        refine kA.out.mono ?_
        rintro e w9 ⟨rfl, v9, A9, hA9, e9, n9, p9, f9, g9⟩
        obtain ⟨y, hy⟩ : ∃ y : Int, ((E ++ ([] : List NdE)).length : Int) = y := ⟨_, rfl⟩
        have hfin : Hid (Ef g v.ownBlock w w9 ∧ PrO g s l T n v E w R (.returned (.int .i64 y)) w9) := by rw [← hy]; exact ⟨e9, PrO.added hA9.out hRR.out n9 p9 f9 g9 (by first | omega | (simp; omega))⟩
        rw [hy]
        clear hA9 e9 n9 p9 f9 g9 kA hRR hy
        clear d0 d1 d2 d3 d4 d5 d6
        go_wp2
        go_ret
        exact hfin.out
      · obtain ⟨m1, m2, rfl⟩ := hx
        exact ⟨rfl, F4.out.ef.trans F4.out.nw e7.weak, PrO.ofX2 ⟨m1, m2, rfl⟩ (by rw [← HR.out, if_pos h0])⟩
    · obtain ⟨m1, m2, rfl⟩ := hx
      refine ⟨rfl, F2.out.ef.trans F2.out.nw e2.weak, PrO.ofX ⟨m1, m2, rfl⟩ ?_⟩
      rw [← HR.out, if_pos (by rw [h0]; rfl), is_x m2 112 (by decide)]
      rfl
  · obtain ⟨m1, m2, rfl⟩ := hx
    refine ⟨rfl, e1.weak, ?_⟩
    refine PrO.ofX ⟨m1, m2, rfl⟩ ?_
    rw [← HR.out, m2]
    rfl
set_option maxRecDepth 20000 in
set_option maxHeartbeats 8000000 in
theorem prCmd8 (g : Nat) (s : ByteArray) (l : List UInt8) (T : List Rf.Tk) (f : Nat) (t c : Nat → List Nd → Rf.Out) (hl : s.data.toList = l) (hs : s.size ≤ 100000) (hT : T.length ≤ 30000) (hXc : Rf.Kx T (Rf.cho T t c T.length)) (hCho : PrC 56 g s l T f (Rf.cho T t c T.length)) (hBlk : PrC 58 g s l T f (Rf.blk T c)) (hGT : GoodT T) (n kd : Nat) (x : List UInt8) (a : Nat) (v : Value) (E : List NdE) (w : World) (h : Ps g s l T n kd x a v E w) (hG : Gl g w) (hf : T.length ≤ n + (f + 1)) (hE : E.length ≤ 3 * n + 5) (hw : (kd == 1 && Fn.isCmd (Rf.lk x)) = true) (hk : Rf.lk x = 8) (h1 : (x == Rf.wIf) = false) (h2 : (x == Rf.wRepeat) = false) (h3 : (x == Rf.wSet) = false) (h4 : Rf.cmdK x = Rf.lk x) :
    Calls Tryz.prog 35 #[scp g] w fun e w' => Ef g v.ownBlock w w' ∧ PrO g s l T n v E w (Rf.cmd T t c n (E.map (·.1))) e w' := by
  obtain ⟨q1, q2, -⟩ := h.cur.cmd.1 hw
  obtain ⟨R, hR⟩ : ∃ R, Rf.cmd T t c n (E.map (·.1)) = R := ⟨_, rfl⟩
  rw [hR]
  rw [Rf.cmd_two T t c n _ 8 q1 (by rw [q2]; exact h1) (by rw [q2]; exact h2) (by rw [q2]; exact h3) (by rw [q2, h4, hk]) (by decide) (by decide)] at hR
  have kK := mkHid (prKind kindCmd h hl hs hG.ft (fun _ => by rw [q1]; exact ⟨by decide, by decide⟩))
  rw [hw, hk] at kK
  have F0 := mkHid (Pf.start h hG)
  have hgl := h.sc.lt
  have HR := mkHid hR
  have HC := mkHid hCho
  have HX := mkHid hXc
  have HL := mkHid hBlk
  have HG := mkHid hGT
  have _hf := hf
  have _hT := hT
  have _hE := hE
  clear h hG q1 q2 hw hk hR hCho hXc hGT hBlk
  go_enter Tryz.func35, Tryz.ntmps35
  go_wp2_with (go_at_call 54; fail)
  refine kK.out.mono ?_
  rintro e w1 ⟨e1, ⟨h0, -⟩ | ⟨-, ⟨kd1, x1, a1, rfl, h1⟩ | hx⟩⟩
  · cases h0
  · obtain ⟨B, hB⟩ : ∃ B, w1.heap.size = B := ⟨_, rfl⟩
    obtain ⟨W0, hW0⟩ : ∃ W0, w1.alloc (.cells #[.int .i64 8, .int .i64 0, .int .i64 0, .string ⟨#[]⟩, .slice none 0 0, .slice none 0 0, .slice none 0 0] 37) = W0 := ⟨_, rfl⟩
    have b0 : Below w1.heap.size w1 W0 := by rw [← hW0]; exact (Below.refl _ _).alloc (Nat.le_refl _) _
    have F2 := mkHid ((F0.out.small (by rw [List.append_nil]; exact h1) e1).below b0)
    have P0 : Hid (Pb w B #[.int .i64 8, .int .i64 0, .int .i64 0, .string ⟨#[]⟩, .slice none 0 0, .slice none 0 0, .slice none 0 0] v W0) := by show Pb w B _ v W0; rw [← hW0, ← hB]; exact Pb.new h1 e1.size
    obtain ⟨kd0, x0, a0, p0⟩ := F2.out.ps
    have hn1 := p0.cur.lt
    have HW0 := mkHid hW0
    have HB := mkHid hB
    have HP0 := mkHid p0
    clear h1 e1 b0 hB hW0 kK F0 p0
    have kY := mkHid (prSaying HP0.out hl hs)
    clear HP0
    go_wp2_with (go_at_call 61; fail)
    rw [HW0.out, HB.out]
    clear HW0
    refine kY.out.mono ?_
    rintro e w2 ⟨e2, ⟨h0, rfl⟩ | ⟨h0, ⟨kd2, x2, a2, rfl, h2⟩ | hx⟩⟩
    · refine ⟨rfl, F2.out.ef.trans F2.out.nw e2.weak, PrO.bad ?_⟩
      rw [← HR.out, if_neg (Bool.eq_false_iff.1 h0)]
    · have hR1 := HR.out
      obtain ⟨tx, htx⟩ : ∃ tx, Rf.ba (Rf.text T (n + 1)) = tx := ⟨_, rfl⟩
      rw [if_pos (by rw [h0]; rfl), htx] at hR1
      rw [htx]
      have F3 := F2.out.small h2 e2
      have P3 := mkHid (P0.out.ef hgl e2 (.inl rfl))
      have F4 := mkHid (F3.set P3.out 3 (.string tx))
      have P4 : Hid (Pb w B #[.int .i64 8, .int .i64 0, .int .i64 0, .string tx, .slice none 0 0, .slice none 0 0, .slice none 0 0] v (w2.setCell ⟨B, 3, none⟩ (.string tx))) := P3.out.set 3 (.string tx)
      have c3 : w2.cell? ⟨B, 3, none⟩ = some (.string ⟨#[]⟩) := P3.out.cell 3 _ rfl
      have z3 : w2.frozen? ⟨B, 3, none⟩ = false := P3.out.fz 3
      obtain ⟨V1, hV1⟩ : ∃ V, w2.setCell ⟨B, 3, none⟩ (.string tx) = V := ⟨_, rfl⟩
      rw [hV1] at F4 P4
      obtain ⟨kd4, x4, a4, h4⟩ := F4.out.ps
      replace HR := mkHid hR1
      have HV1 := mkHid hV1
      clear h0 h2 e2 kY hR1 F3 P3 hV1 F2 P0 htx
      have kS := mkHid (prSign h4 hl hs [59] (by decide) (by decide))
      rw [show Rf.cls [59] = 112 from rfl] at kS
      clear h4
      go_wp2_with (go_at_call 62; fail)
      rw [HV1.out]
      refine kS.out.mono ?_
      rintro e w7 ⟨e7, ⟨h0, rfl⟩ | ⟨h0, ⟨kd7, x7, a7, rfl, h7⟩ | hx⟩⟩
      · refine ⟨rfl, F4.out.ef.trans F4.out.nw e7.weak, PrO.bad ?_⟩
        rw [← HR.out, if_neg (Bool.eq_false_iff.1 h0)]
      · have hR7 := HR.out
        rw [if_pos h0] at hR7
        have hjT := h7.cur.lt
        have F8 := mkHid (F4.out.small h7 e7)
        have P8 := mkHid (P4.out.ef hgl e7 (.inl rfl))
        have hNz : Hid (R = .ok (n + 3) ((E ++ ([] : List NdE)).map (·.1) ++ [{ Rf.zn 8 with text := tx }])) := by show R = _; rw [← hR7, List.append_nil]
        have d0 : (w7).cell? ⟨B, 0, none⟩ = some (.int .i64 8) := P8.out.cell 0 _ rfl
        have d1 : (w7).cell? ⟨B, 1, none⟩ = some (.int .i64 0) := P8.out.cell 1 _ rfl
        have d2 : (w7).cell? ⟨B, 2, none⟩ = some (.int .i64 0) := P8.out.cell 2 _ rfl
        have d3 : (w7).cell? ⟨B, 3, none⟩ = some (.string tx) := P8.out.cell 3 _ rfl
        have d4 : (w7).cell? ⟨B, 4, none⟩ = some (.slice none 0 0) := P8.out.cell 4 _ rfl
        have d5 : (w7).cell? ⟨B, 5, none⟩ = some (.slice none 0 0) := P8.out.cell 5 _ rfl
        have d6 : (w7).cell? ⟨B, 6, none⟩ = some (.slice none 0 0) := P8.out.cell 6 _ rfl
        clear h0 h7 e7 hR7 P8 P4 F4 kS
        have kA := mkHid (F8.out.add { Rf.zn 8 with text := tx } rfl rfl rfl (by rw [List.length_append]; first | omega | (simp; omega)))
        have hRR : Hid (R = .ok (n + 3) ((E ++ ([] : List NdE)).map (·.1) ++ [{ Rf.zn 8 with text := tx }])) := hNz
        clear HR F8
        unfold ndV Rf.zn at kA
        dsimp only at kA
        go_wp2_with (go_at_call 36; fail)
        refine kA.out.mono ?_
        rintro e w9 ⟨rfl, v9, A9, hA9, e9, n9, p9, f9, g9⟩
        obtain ⟨y, hy⟩ : ∃ y : Int, ((E ++ ([] : List NdE)).length : Int) = y := ⟨_, rfl⟩
        have hfin : Hid (Ef g v.ownBlock w w9 ∧ PrO g s l T n v E w R (.returned (.int .i64 y)) w9) := by rw [← hy]; exact ⟨e9, PrO.added hA9.out hRR.out n9 p9 f9 g9 (by first | omega | (simp; omega))⟩
        rw [hy]
        clear hA9 e9 n9 p9 f9 g9 kA hRR hy
        clear d0 d1 d2 d3 d4 d5 d6
        go_wp2
        go_ret
        exact hfin.out
      · obtain ⟨m1, m2, rfl⟩ := hx
        exact ⟨rfl, F4.out.ef.trans F4.out.nw e7.weak, PrO.ofX2 ⟨m1, m2, rfl⟩ (by rw [← HR.out, if_pos h0])⟩
    · obtain ⟨m1, m2, rfl⟩ := hx
      refine ⟨rfl, F2.out.ef.trans F2.out.nw e2.weak, PrO.ofX ⟨m1, m2, rfl⟩ ?_⟩
      rw [← HR.out, if_pos (by rw [h0]; rfl), is_x m2 112 (by decide)]
      rfl
  · obtain ⟨m1, m2, rfl⟩ := hx
    refine ⟨rfl, e1.weak, ?_⟩
    refine PrO.ofX ⟨m1, m2, rfl⟩ ?_
    rw [← HR.out, m2]
    rfl
set_option maxRecDepth 20000 in
set_option maxHeartbeats 8000000 in
theorem prCmd9 (g : Nat) (s : ByteArray) (l : List UInt8) (T : List Rf.Tk) (f : Nat) (t c : Nat → List Nd → Rf.Out) (hl : s.data.toList = l) (hs : s.size ≤ 100000) (hT : T.length ≤ 30000) (hXc : Rf.Kx T (Rf.cho T t c T.length)) (hCho : PrC 56 g s l T f (Rf.cho T t c T.length)) (hBlk : PrC 58 g s l T f (Rf.blk T c)) (hGT : GoodT T) (n kd : Nat) (x : List UInt8) (a : Nat) (v : Value) (E : List NdE) (w : World) (h : Ps g s l T n kd x a v E w) (hG : Gl g w) (hf : T.length ≤ n + (f + 1)) (hE : E.length ≤ 3 * n + 5) (hw : (kd == 1 && Fn.isCmd (Rf.lk x)) = true) (hk : Rf.lk x = 9) (h1 : (x == Rf.wIf) = false) (h2 : (x == Rf.wRepeat) = false) (h3 : (x == Rf.wSet) = false) (h4 : Rf.cmdK x = Rf.lk x) :
    Calls Tryz.prog 35 #[scp g] w fun e w' => Ef g v.ownBlock w w' ∧ PrO g s l T n v E w (Rf.cmd T t c n (E.map (·.1))) e w' := by
  obtain ⟨q1, q2, -⟩ := h.cur.cmd.1 hw
  obtain ⟨R, hR⟩ : ∃ R, Rf.cmd T t c n (E.map (·.1)) = R := ⟨_, rfl⟩
  rw [hR]
  rw [Rf.cmd_two T t c n _ 9 q1 (by rw [q2]; exact h1) (by rw [q2]; exact h2) (by rw [q2]; exact h3) (by rw [q2, h4, hk]) (by decide) (by decide)] at hR
  have kK := mkHid (prKind kindCmd h hl hs hG.ft (fun _ => by rw [q1]; exact ⟨by decide, by decide⟩))
  rw [hw, hk] at kK
  have F0 := mkHid (Pf.start h hG)
  have hgl := h.sc.lt
  have HR := mkHid hR
  have HC := mkHid hCho
  have HX := mkHid hXc
  have HL := mkHid hBlk
  have HG := mkHid hGT
  have _hf := hf
  have _hT := hT
  have _hE := hE
  clear h hG q1 q2 hw hk hR hCho hXc hGT hBlk
  go_enter Tryz.func35, Tryz.ntmps35
  go_wp2_with (go_at_call 54; fail)
  refine kK.out.mono ?_
  rintro e w1 ⟨e1, ⟨h0, -⟩ | ⟨-, ⟨kd1, x1, a1, rfl, h1⟩ | hx⟩⟩
  · cases h0
  · obtain ⟨B, hB⟩ : ∃ B, w1.heap.size = B := ⟨_, rfl⟩
    obtain ⟨W0, hW0⟩ : ∃ W0, w1.alloc (.cells #[.int .i64 9, .int .i64 0, .int .i64 0, .string ⟨#[]⟩, .slice none 0 0, .slice none 0 0, .slice none 0 0] 37) = W0 := ⟨_, rfl⟩
    have b0 : Below w1.heap.size w1 W0 := by rw [← hW0]; exact (Below.refl _ _).alloc (Nat.le_refl _) _
    have F2 := mkHid ((F0.out.small (by rw [List.append_nil]; exact h1) e1).below b0)
    have P0 : Hid (Pb w B #[.int .i64 9, .int .i64 0, .int .i64 0, .string ⟨#[]⟩, .slice none 0 0, .slice none 0 0, .slice none 0 0] v W0) := by show Pb w B _ v W0; rw [← hW0, ← hB]; exact Pb.new h1 e1.size
    obtain ⟨kd0, x0, a0, p0⟩ := F2.out.ps
    have hn1 := p0.cur.lt
    have HW0 := mkHid hW0
    have HB := mkHid hB
    have HP0 := mkHid p0
    clear h1 e1 b0 hB hW0 kK F0 p0
    have kY := mkHid (prSaying HP0.out hl hs)
    clear HP0
    go_wp2_with (go_at_call 61; fail)
    rw [HW0.out, HB.out]
    clear HW0
    refine kY.out.mono ?_
    rintro e w2 ⟨e2, ⟨h0, rfl⟩ | ⟨h0, ⟨kd2, x2, a2, rfl, h2⟩ | hx⟩⟩
    · refine ⟨rfl, F2.out.ef.trans F2.out.nw e2.weak, PrO.bad ?_⟩
      rw [← HR.out, if_neg (Bool.eq_false_iff.1 h0)]
    · have hR1 := HR.out
      obtain ⟨tx, htx⟩ : ∃ tx, Rf.ba (Rf.text T (n + 1)) = tx := ⟨_, rfl⟩
      rw [if_pos (by rw [h0]; rfl), htx] at hR1
      rw [htx]
      have F3 := F2.out.small h2 e2
      have P3 := mkHid (P0.out.ef hgl e2 (.inl rfl))
      have F4 := mkHid (F3.set P3.out 3 (.string tx))
      have P4 : Hid (Pb w B #[.int .i64 9, .int .i64 0, .int .i64 0, .string tx, .slice none 0 0, .slice none 0 0, .slice none 0 0] v (w2.setCell ⟨B, 3, none⟩ (.string tx))) := P3.out.set 3 (.string tx)
      have c3 : w2.cell? ⟨B, 3, none⟩ = some (.string ⟨#[]⟩) := P3.out.cell 3 _ rfl
      have z3 : w2.frozen? ⟨B, 3, none⟩ = false := P3.out.fz 3
      obtain ⟨V1, hV1⟩ : ∃ V, w2.setCell ⟨B, 3, none⟩ (.string tx) = V := ⟨_, rfl⟩
      rw [hV1] at F4 P4
      obtain ⟨kd4, x4, a4, h4⟩ := F4.out.ps
      replace HR := mkHid hR1
      have HV1 := mkHid hV1
      clear h0 h2 e2 kY hR1 F3 P3 hV1 F2 P0 htx
      have kS := mkHid (prSign h4 hl hs [59] (by decide) (by decide))
      rw [show Rf.cls [59] = 112 from rfl] at kS
      clear h4
      go_wp2_with (go_at_call 62; fail)
      rw [HV1.out]
      refine kS.out.mono ?_
      rintro e w7 ⟨e7, ⟨h0, rfl⟩ | ⟨h0, ⟨kd7, x7, a7, rfl, h7⟩ | hx⟩⟩
      · refine ⟨rfl, F4.out.ef.trans F4.out.nw e7.weak, PrO.bad ?_⟩
        rw [← HR.out, if_neg (Bool.eq_false_iff.1 h0)]
      · have hR7 := HR.out
        rw [if_pos h0] at hR7
        have hjT := h7.cur.lt
        have F8 := mkHid (F4.out.small h7 e7)
        have P8 := mkHid (P4.out.ef hgl e7 (.inl rfl))
        have hNz : Hid (R = .ok (n + 3) ((E ++ ([] : List NdE)).map (·.1) ++ [{ Rf.zn 9 with text := tx }])) := by show R = _; rw [← hR7, List.append_nil]
        have d0 : (w7).cell? ⟨B, 0, none⟩ = some (.int .i64 9) := P8.out.cell 0 _ rfl
        have d1 : (w7).cell? ⟨B, 1, none⟩ = some (.int .i64 0) := P8.out.cell 1 _ rfl
        have d2 : (w7).cell? ⟨B, 2, none⟩ = some (.int .i64 0) := P8.out.cell 2 _ rfl
        have d3 : (w7).cell? ⟨B, 3, none⟩ = some (.string tx) := P8.out.cell 3 _ rfl
        have d4 : (w7).cell? ⟨B, 4, none⟩ = some (.slice none 0 0) := P8.out.cell 4 _ rfl
        have d5 : (w7).cell? ⟨B, 5, none⟩ = some (.slice none 0 0) := P8.out.cell 5 _ rfl
        have d6 : (w7).cell? ⟨B, 6, none⟩ = some (.slice none 0 0) := P8.out.cell 6 _ rfl
        clear h0 h7 e7 hR7 P8 P4 F4 kS
        have kA := mkHid (F8.out.add { Rf.zn 9 with text := tx } rfl rfl rfl (by rw [List.length_append]; first | omega | (simp; omega)))
        have hRR : Hid (R = .ok (n + 3) ((E ++ ([] : List NdE)).map (·.1) ++ [{ Rf.zn 9 with text := tx }])) := hNz
        clear HR F8
        unfold ndV Rf.zn at kA
        dsimp only at kA
        go_wp2_with (go_at_call 36; fail)
        refine kA.out.mono ?_
        rintro e w9 ⟨rfl, v9, A9, hA9, e9, n9, p9, f9, g9⟩
        obtain ⟨y, hy⟩ : ∃ y : Int, ((E ++ ([] : List NdE)).length : Int) = y := ⟨_, rfl⟩
        have hfin : Hid (Ef g v.ownBlock w w9 ∧ PrO g s l T n v E w R (.returned (.int .i64 y)) w9) := by rw [← hy]; exact ⟨e9, PrO.added hA9.out hRR.out n9 p9 f9 g9 (by first | omega | (simp; omega))⟩
        rw [hy]
        clear hA9 e9 n9 p9 f9 g9 kA hRR hy
        clear d0 d1 d2 d3 d4 d5 d6
        go_wp2
        go_ret
        exact hfin.out
      · obtain ⟨m1, m2, rfl⟩ := hx
        exact ⟨rfl, F4.out.ef.trans F4.out.nw e7.weak, PrO.ofX2 ⟨m1, m2, rfl⟩ (by rw [← HR.out, if_pos h0])⟩
    · obtain ⟨m1, m2, rfl⟩ := hx
      refine ⟨rfl, F2.out.ef.trans F2.out.nw e2.weak, PrO.ofX ⟨m1, m2, rfl⟩ ?_⟩
      rw [← HR.out, if_pos (by rw [h0]; rfl), is_x m2 112 (by decide)]
      rfl
  · obtain ⟨m1, m2, rfl⟩ := hx
    refine ⟨rfl, e1.weak, ?_⟩
    refine PrO.ofX ⟨m1, m2, rfl⟩ ?_
    rw [← HR.out, m2]
    rfl
set_option maxRecDepth 20000 in
set_option maxHeartbeats 8000000 in
theorem prCmd10 (g : Nat) (s : ByteArray) (l : List UInt8) (T : List Rf.Tk) (f : Nat) (t c : Nat → List Nd → Rf.Out) (hl : s.data.toList = l) (hs : s.size ≤ 100000) (hT : T.length ≤ 30000) (hXc : Rf.Kx T (Rf.cho T t c T.length)) (hCho : PrC 56 g s l T f (Rf.cho T t c T.length)) (hBlk : PrC 58 g s l T f (Rf.blk T c)) (hGT : GoodT T) (n kd : Nat) (x : List UInt8) (a : Nat) (v : Value) (E : List NdE) (w : World) (h : Ps g s l T n kd x a v E w) (hG : Gl g w) (hf : T.length ≤ n + (f + 1)) (hE : E.length ≤ 3 * n + 5) (hw : (kd == 1 && Fn.isCmd (Rf.lk x)) = true) (hk : Rf.lk x = 10) (h1 : (x == Rf.wIf) = false) (h2 : (x == Rf.wRepeat) = false) (h3 : (x == Rf.wSet) = false) (h4 : Rf.cmdK x = Rf.lk x) :
    Calls Tryz.prog 35 #[scp g] w fun e w' => Ef g v.ownBlock w w' ∧ PrO g s l T n v E w (Rf.cmd T t c n (E.map (·.1))) e w' := by
  obtain ⟨q1, q2, -⟩ := h.cur.cmd.1 hw
  obtain ⟨R, hR⟩ : ∃ R, Rf.cmd T t c n (E.map (·.1)) = R := ⟨_, rfl⟩
  rw [hR]
  rw [Rf.cmd_two T t c n _ 10 q1 (by rw [q2]; exact h1) (by rw [q2]; exact h2) (by rw [q2]; exact h3) (by rw [q2, h4, hk]) (by decide) (by decide)] at hR
  have kK := mkHid (prKind kindCmd h hl hs hG.ft (fun _ => by rw [q1]; exact ⟨by decide, by decide⟩))
  rw [hw, hk] at kK
  have F0 := mkHid (Pf.start h hG)
  have hgl := h.sc.lt
  have HR := mkHid hR
  have HC := mkHid hCho
  have HX := mkHid hXc
  have HL := mkHid hBlk
  have HG := mkHid hGT
  have _hf := hf
  have _hT := hT
  have _hE := hE
  clear h hG q1 q2 hw hk hR hCho hXc hGT hBlk
  go_enter Tryz.func35, Tryz.ntmps35
  go_wp2_with (go_at_call 54; fail)
  refine kK.out.mono ?_
  rintro e w1 ⟨e1, ⟨h0, -⟩ | ⟨-, ⟨kd1, x1, a1, rfl, h1⟩ | hx⟩⟩
  · cases h0
  · obtain ⟨B, hB⟩ : ∃ B, w1.heap.size = B := ⟨_, rfl⟩
    obtain ⟨W0, hW0⟩ : ∃ W0, w1.alloc (.cells #[.int .i64 10, .int .i64 0, .int .i64 0, .string ⟨#[]⟩, .slice none 0 0, .slice none 0 0, .slice none 0 0] 37) = W0 := ⟨_, rfl⟩
    have b0 : Below w1.heap.size w1 W0 := by rw [← hW0]; exact (Below.refl _ _).alloc (Nat.le_refl _) _
    have F2 := mkHid ((F0.out.small (by rw [List.append_nil]; exact h1) e1).below b0)
    have P0 : Hid (Pb w B #[.int .i64 10, .int .i64 0, .int .i64 0, .string ⟨#[]⟩, .slice none 0 0, .slice none 0 0, .slice none 0 0] v W0) := by show Pb w B _ v W0; rw [← hW0, ← hB]; exact Pb.new h1 e1.size
    obtain ⟨kd0, x0, a0, p0⟩ := F2.out.ps
    have hn1 := p0.cur.lt
    have HW0 := mkHid hW0
    have HB := mkHid hB
    have HP0 := mkHid p0
    clear h1 e1 b0 hB hW0 kK F0 p0
    have kY := mkHid (prSaying HP0.out hl hs)
    clear HP0
    go_wp2_with (go_at_call 61; fail)
    rw [HW0.out, HB.out]
    clear HW0
    refine kY.out.mono ?_
    rintro e w2 ⟨e2, ⟨h0, rfl⟩ | ⟨h0, ⟨kd2, x2, a2, rfl, h2⟩ | hx⟩⟩
    · refine ⟨rfl, F2.out.ef.trans F2.out.nw e2.weak, PrO.bad ?_⟩
      rw [← HR.out, if_neg (Bool.eq_false_iff.1 h0)]
    · have hR1 := HR.out
      obtain ⟨tx, htx⟩ : ∃ tx, Rf.ba (Rf.text T (n + 1)) = tx := ⟨_, rfl⟩
      rw [if_pos (by rw [h0]; rfl), htx] at hR1
      rw [htx]
      have F3 := F2.out.small h2 e2
      have P3 := mkHid (P0.out.ef hgl e2 (.inl rfl))
      have F4 := mkHid (F3.set P3.out 3 (.string tx))
      have P4 : Hid (Pb w B #[.int .i64 10, .int .i64 0, .int .i64 0, .string tx, .slice none 0 0, .slice none 0 0, .slice none 0 0] v (w2.setCell ⟨B, 3, none⟩ (.string tx))) := P3.out.set 3 (.string tx)
      have c3 : w2.cell? ⟨B, 3, none⟩ = some (.string ⟨#[]⟩) := P3.out.cell 3 _ rfl
      have z3 : w2.frozen? ⟨B, 3, none⟩ = false := P3.out.fz 3
      obtain ⟨V1, hV1⟩ : ∃ V, w2.setCell ⟨B, 3, none⟩ (.string tx) = V := ⟨_, rfl⟩
      rw [hV1] at F4 P4
      obtain ⟨kd4, x4, a4, h4⟩ := F4.out.ps
      replace HR := mkHid hR1
      have HV1 := mkHid hV1
      clear h0 h2 e2 kY hR1 F3 P3 hV1 F2 P0 htx
      have kS := mkHid (prSign h4 hl hs [59] (by decide) (by decide))
      rw [show Rf.cls [59] = 112 from rfl] at kS
      clear h4
      go_wp2_with (go_at_call 62; fail)
      rw [HV1.out]
      refine kS.out.mono ?_
      rintro e w7 ⟨e7, ⟨h0, rfl⟩ | ⟨h0, ⟨kd7, x7, a7, rfl, h7⟩ | hx⟩⟩
      · refine ⟨rfl, F4.out.ef.trans F4.out.nw e7.weak, PrO.bad ?_⟩
        rw [← HR.out, if_neg (Bool.eq_false_iff.1 h0)]
      · have hR7 := HR.out
        rw [if_pos h0] at hR7
        have hjT := h7.cur.lt
        have F8 := mkHid (F4.out.small h7 e7)
        have P8 := mkHid (P4.out.ef hgl e7 (.inl rfl))
        have hNz : Hid (R = .ok (n + 3) ((E ++ ([] : List NdE)).map (·.1) ++ [{ Rf.zn 10 with text := tx }])) := by show R = _; rw [← hR7, List.append_nil]
        have d0 : (w7).cell? ⟨B, 0, none⟩ = some (.int .i64 10) := P8.out.cell 0 _ rfl
        have d1 : (w7).cell? ⟨B, 1, none⟩ = some (.int .i64 0) := P8.out.cell 1 _ rfl
        have d2 : (w7).cell? ⟨B, 2, none⟩ = some (.int .i64 0) := P8.out.cell 2 _ rfl
        have d3 : (w7).cell? ⟨B, 3, none⟩ = some (.string tx) := P8.out.cell 3 _ rfl
        have d4 : (w7).cell? ⟨B, 4, none⟩ = some (.slice none 0 0) := P8.out.cell 4 _ rfl
        have d5 : (w7).cell? ⟨B, 5, none⟩ = some (.slice none 0 0) := P8.out.cell 5 _ rfl
        have d6 : (w7).cell? ⟨B, 6, none⟩ = some (.slice none 0 0) := P8.out.cell 6 _ rfl
        clear h0 h7 e7 hR7 P8 P4 F4 kS
        have kA := mkHid (F8.out.add { Rf.zn 10 with text := tx } rfl rfl rfl (by rw [List.length_append]; first | omega | (simp; omega)))
        have hRR : Hid (R = .ok (n + 3) ((E ++ ([] : List NdE)).map (·.1) ++ [{ Rf.zn 10 with text := tx }])) := hNz
        clear HR F8
        unfold ndV Rf.zn at kA
        dsimp only at kA
        go_wp2_with (go_at_call 36; fail)
        refine kA.out.mono ?_
        rintro e w9 ⟨rfl, v9, A9, hA9, e9, n9, p9, f9, g9⟩
        obtain ⟨y, hy⟩ : ∃ y : Int, ((E ++ ([] : List NdE)).length : Int) = y := ⟨_, rfl⟩
        have hfin : Hid (Ef g v.ownBlock w w9 ∧ PrO g s l T n v E w R (.returned (.int .i64 y)) w9) := by rw [← hy]; exact ⟨e9, PrO.added hA9.out hRR.out n9 p9 f9 g9 (by first | omega | (simp; omega))⟩
        rw [hy]
        clear hA9 e9 n9 p9 f9 g9 kA hRR hy
        clear d0 d1 d2 d3 d4 d5 d6
        go_wp2
        go_ret
        exact hfin.out
      · obtain ⟨m1, m2, rfl⟩ := hx
        exact ⟨rfl, F4.out.ef.trans F4.out.nw e7.weak, PrO.ofX2 ⟨m1, m2, rfl⟩ (by rw [← HR.out, if_pos h0])⟩
    · obtain ⟨m1, m2, rfl⟩ := hx
      refine ⟨rfl, F2.out.ef.trans F2.out.nw e2.weak, PrO.ofX ⟨m1, m2, rfl⟩ ?_⟩
      rw [← HR.out, if_pos (by rw [h0]; rfl), is_x m2 112 (by decide)]
      rfl
  · obtain ⟨m1, m2, rfl⟩ := hx
    refine ⟨rfl, e1.weak, ?_⟩
    refine PrO.ofX ⟨m1, m2, rfl⟩ ?_
    rw [← HR.out, m2]
    rfl
end Go.Proofs.YtlphojaeaogehaaGreatDoor
namespace Go.Proofs.YtlphojaeaogehaaGreatDoor
open Go.RowKit Go.Lib Go.Maps
set_option maxRecDepth 20000 in
theorem name_of (x : List UInt8) : Fn.nameOk ⟨x.toArray⟩ = Rf.isName x := name_same x
set_option maxRecDepth 20000 in
set_option maxHeartbeats 8000000 in
theorem prCmdSet (g : Nat) (s : ByteArray) (l : List UInt8) (T : List Rf.Tk) (f : Nat) (t c : Nat → List Nd → Rf.Out) (hl : s.data.toList = l) (hs : s.size ≤ 100000) (hT : T.length ≤ 30000) (hXc : Rf.Kx T (Rf.cho T t c T.length)) (hCho : PrC 56 g s l T f (Rf.cho T t c T.length)) (hBlk : PrC 58 g s l T f (Rf.blk T c)) (hGT : GoodT T) (n kd : Nat) (x : List UInt8) (a : Nat) (v : Value) (E : List NdE) (w : World) (h : Ps g s l T n kd x a v E w) (hG : Gl g w) (hf : T.length ≤ n + (f + 1)) (hE : E.length ≤ 3 * n + 5) (hw : (kd == 1 && Fn.isCmd (Rf.lk x)) = true) (hk : Rf.lk x = 11) (hx : x = Rf.wSet) :
    Calls Tryz.prog 35 #[scp g] w fun e w' => Ef g v.ownBlock w w' ∧ PrO g s l T n v E w (Rf.cmd T t c n (E.map (·.1))) e w' := by
  obtain ⟨q1, q2, -⟩ := h.cur.cmd.1 hw
  obtain ⟨R, hR⟩ : ∃ R, Rf.cmd T t c n (E.map (·.1)) = R := ⟨_, rfl⟩
  rw [hR]
  rw [Rf.cmd_set T t c n _ (by unfold Rf.is; rw [q1, q2, hx]; rfl)] at hR
  have kK := mkHid (prKind kindCmd h hl hs hG.ft (fun _ => by rw [q1]; exact ⟨by decide, by decide⟩))
  rw [hw, hk] at kK
  have F0 := mkHid (Pf.start h hG)
  have hgl := h.sc.lt
  have HR := mkHid hR
  have HC := mkHid hCho
  have HX := mkHid hXc
  have HL := mkHid hBlk
  have HG := mkHid hGT
  have _hf := hf
  have _hT := hT
  have _hE := hE
  clear h hG q1 q2 hw hk hR hCho hXc hGT hBlk
  go_enter Tryz.func35, Tryz.ntmps35
  go_wp2_with (go_at_call 54; fail)
  refine kK.out.mono ?_
  rintro e w1 ⟨e1, ⟨h0, -⟩ | ⟨-, ⟨kd1, x1, a1, rfl, h1⟩ | hx⟩⟩
  · cases h0
  · obtain ⟨B, hB⟩ : ∃ B, w1.heap.size = B := ⟨_, rfl⟩
    obtain ⟨W0, hW0⟩ : ∃ W0, w1.alloc (.cells #[.int .i64 11, .int .i64 0, .int .i64 0, .string ⟨#[]⟩, .slice none 0 0, .slice none 0 0, .slice none 0 0] 37) = W0 := ⟨_, rfl⟩
    have b0 : Below w1.heap.size w1 W0 := by rw [← hW0]; exact (Below.refl _ _).alloc (Nat.le_refl _) _
    have F2 := mkHid ((F0.out.small (by rw [List.append_nil]; exact h1) e1).below b0)
    have P0 : Hid (Pb w B #[.int .i64 11, .int .i64 0, .int .i64 0, .string ⟨#[]⟩, .slice none 0 0, .slice none 0 0, .slice none 0 0] v W0) := by show Pb w B _ v W0; rw [← hW0, ← hB]; exact Pb.new h1 e1.size
    obtain ⟨kd0, x0, a0, p0⟩ := F2.out.ps
    have hn1 := p0.cur.lt
    have HW0 := mkHid hW0
    have HB := mkHid hB
    have HP0 := mkHid p0
    clear h1 e1 b0 hB hW0 kK F0 p0
    have bD : Below W0.heap.size W0 W0.drew := below_drew (Below.refl _ _)
    have hxs : x0.length ≤ 100000 := by
      have := HP0.out.cur.small
      have : l.length = s.size := by rw [← hl]; simp
      omega
    have hp1 := HP0.out.below bD
    have c4 := hp1.sc.c4
    have kV := mkHid (implVariable ⟨x0.toArray⟩ W0.drew (by simp [ByteArray.size]; omega))
    rw [name_of] at kV
    have kN := mkHid (scNeedNo g s a0 (Rf.pos T (n + 1)) W0.drew hp1.sc)
    have kY := mkHid (scNeedYes g W0.drew)
    have kS := mkHid (prSaying hp1 hl hs)
    have hcur := mkHid HP0.out.cur
    replace F2 := mkHid (F2.out.below bD)
    replace P0 := mkHid (P0.out.below bD)
    clear HP0 hp1 bD
    obtain ⟨xb, hxb⟩ : ∃ xb : ByteArray, ⟨x0.toArray⟩ = xb := ⟨_, rfl⟩
    rw [hxb] at c4 kV
    clear hxb
    go_wp2
    rw [HW0.out, HB.out]
    clear HW0
    refine wp_region_any (by kernel_rfl) ?_
    refine wpAny_take (i := 0) (v := scp g) rfl (by kernel_rfl) (by kernel_rfl) (by kernel_rfl) (fun _ _ _ h => h) (Or.inl ⟨by rfl, ?_⟩) ?_
    · intro w
      go_simp
      all_goals first | done | (intro h; exfalso; omega) | omega
    go_simp
    refine wpAny_take (i := 1) (v := .pointer (some ⟨g, 0, none⟩)) rfl (by kernel_rfl) (by kernel_rfl) (by kernel_rfl) (fun _ _ _ h => h) (Or.inl ⟨by rfl, ?_⟩) ?_
    · intro w
      go_simp
      all_goals first | done | (intro h; exfalso; omega) | omega
    go_simp
    refine wpAny_take (i := 2) (v := .pointer (some ⟨g, 0, none⟩)) rfl (by kernel_rfl) (by kernel_rfl) (by kernel_rfl) (fun _ _ _ h => h) (Or.inl ⟨by rfl, ?_⟩) ?_
    · intro w
      go_simp
      all_goals first | done | (intro h; exfalso; omega) | omega
    go_simp
    refine wpAny_take (i := 3) (v := scp g) rfl (by kernel_rfl) (by kernel_rfl) (by kernel_rfl) (fun _ _ _ h => h) (Or.inl ⟨by rfl, ?_⟩) ?_
    · intro w
      go_simp
      all_goals first | done | (intro h; exfalso; omega) | omega
    go_simp
    refine wpAny_take (i := 4) (v := .pointer (some ⟨g, 0, none⟩)) rfl (by kernel_rfl) (by kernel_rfl) (by kernel_rfl) (fun _ _ _ h => h) (Or.inl ⟨by rfl, ?_⟩) ?_
    · intro w
      go_simp
      all_goals first | done | (intro h; exfalso; omega) | omega
    go_simp
    refine wpAny_take (i := 5) (v := .pointer (some ⟨g, 3, none⟩)) rfl (by kernel_rfl) (by kernel_rfl) (by kernel_rfl) (fun _ _ _ h => h) (Or.inl ⟨by rfl, ?_⟩) ?_
    · intro w
      go_simp
      all_goals first | done | (intro h; exfalso; omega) | omega
    go_simp
    refine wpAny_take (i := 6) (v := .pointer (some ⟨g, 4, none⟩)) rfl (by kernel_rfl) (by kernel_rfl) (by kernel_rfl) (fun _ _ _ h => h) (Or.inl ⟨by rfl, ?_⟩) ?_
    · intro w
      go_simp
      all_goals first | done | (intro h; exfalso; omega) | omega
    go_simp
    refine wpAny_ready (rs := [7]) (by kernel_rfl) (by simp) ?_
    refine AllReady.cons rfl (fun K hK => ?_) AllReady.nil
    go_simp
    refine hK _ _ ?_
    clear hK K
    go_simp
    refine wpAny_ready (rs := [8]) (by kernel_rfl) (by simp) ?_
    refine AllReady.cons rfl (fun K hK => ?_) AllReady.nil
    go_simp
    refine kV.out.mono ?_
    rintro e w2 ⟨rfl, rfl⟩
    clear c4 kV
    cases hnm : Rf.isName x0 with
    | false =>
      have hRb : Hid (R = .bad (n + 1)) := by
        show R = _
        rw [← HR.out]
        by_cases hk : Rf.kind T (n + 1) = 116
        · rw [← hcur.out.txt hk, hnm, Bool.and_false, if_neg (by decide)]
        · rw [if_neg (by rw [Bool.and_eq_true, beq_iff_eq]; exact fun h => hk h.1)]
      clear HR hnm
      go_simp
      refine hK _ _ ?_
      clear hK K
      go_simp
      refine wpAny_ready (rs := [9]) (by kernel_rfl) (by simp) ?_
      refine AllReady.cons rfl (fun K hK => ?_) AllReady.nil
      go_simp
      refine kN.out.mono ?_
      rintro e w2 ⟨rfl, rfl⟩
      go_simp
      exact ⟨rfl, F2.out.ef, PrO.bad hRb.out⟩
    | true =>
      have hRk := HR.out
      replace hnm := mkHid hnm
      go_simp
      refine hK _ _ ?_
      clear hK K
      go_simp
      refine wpAny_ready (rs := [9]) (by kernel_rfl) (by simp) ?_
      refine AllReady.cons rfl (fun K hK => ?_) AllReady.nil
      go_simp
      refine kY.out.mono ?_
      rintro e w2 ⟨rfl, rfl⟩
      go_simp
      refine hK _ _ ?_
      clear hK K hRk
      go_simp
      refine wpAny_done (by kernel_rfl) ?_ _
      clear kN kY
      obtain ⟨WD, hWD⟩ : ∃ WD, W0.drew = WD := ⟨_, rfl⟩
      rw [hWD] at kS F2 P0 ⊢
      clear hWD
      go_wp2_with (go_at_call 61; fail)
      refine kS.out.mono ?_
      rintro e w3 ⟨e3, ⟨h0, rfl⟩ | ⟨h0, ⟨kd3, x3, a3, rfl, h3⟩ | hx⟩⟩
      · refine ⟨rfl, F2.out.ef.trans F2.out.nw e3.weak, PrO.bad ?_⟩
        rw [← HR.out, h0, Bool.false_and, if_neg (by decide)]
      · have hR1 := HR.out
        have hnt : Rf.isName (Rf.text T (n + 1)) = true := by rw [← hcur.out.txt h0]; exact hnm.out
        rw [if_pos (by rw [h0, hnt]; rfl)] at hR1
        obtain ⟨tn, htn⟩ : ∃ tn, Rf.ba (Rf.text T (n + 1)) = tn := ⟨_, rfl⟩
        rw [htn] at hR1 ⊢
        have P3 := P0.out.ef hgl e3 (.inl rfl)
        have b3 : Below w3.heap.size w3 (w3.alloc (.cells #[.string tn] 9)) := (Below.refl _ _).alloc (Nat.le_refl _) _
        have hs3 := e3.size
        have hO : OwnX WD.heap.size (.slice (some ⟨w3.heap.size, 0, none⟩) 1 1) [tn] (w3.alloc (.cells #[.string tn] 9)) := ⟨rfl, .inr ⟨w3.heap.size, 1, _, rfl, hs3, heap_alloc_at _ _, Nat.le_refl _, by unfold maxLen; omega, rfl, rfl⟩⟩
        have F4 := F2.out.names (h3.below b3) (e3.trans0 (Ef.of_below b3)) hO
        have P4 := mkHid (P3.below b3)
        have F5 := mkHid (F4.set P4.out 4 (.slice (some ⟨w3.heap.size, 0, none⟩) 1 1))
        have P5 : Hid (Pb w B #[.int .i64 11, .int .i64 0, .int .i64 0, .string ⟨#[]⟩, .slice (some ⟨w3.heap.size, 0, none⟩) 1 1, .slice none 0 0, .slice none 0 0] v ((w3.alloc (.cells #[.string tn] 9)).setCell ⟨B, 4, none⟩ (.slice (some ⟨w3.heap.size, 0, none⟩) 1 1))) := P4.out.set 4 _
        have c4 : (w3.alloc (.cells #[.string tn] 9)).cell? ⟨B, 4, none⟩ = some (.slice none 0 0) := P4.out.cell 4 _ rfl
        have z4 : (w3.alloc (.cells #[.string tn] 9)).frozen? ⟨B, 4, none⟩ = false := P4.out.fz 4
        obtain ⟨q3, hq3⟩ : ∃ q3, w3.heap.size = q3 := ⟨_, rfl⟩
        obtain ⟨V1, hV1⟩ : ∃ V, (w3.alloc (.cells #[.string tn] 9)).setCell ⟨B, 4, none⟩ (.slice (some ⟨w3.heap.size, 0, none⟩) 1 1) = V := ⟨_, rfl⟩
        rw [hV1, hq3] at F5 P5
        obtain ⟨kd5, x5, a5, h5⟩ := F5.out.ps
        have kS2 := mkHid (prSaying h5 hl hs)
        replace HR := mkHid hR1
        have HV1 := mkHid hV1
        have Hq3 := mkHid hq3
        clear h0 h3 e3 kS hR1 P3 b3 hO F4 P4 hV1 F2 P0 htn hnm hcur hnt h5 hs3 hq3
        go_wp2_with (go_at_call 61; fail)
        rw [HV1.out, Hq3.out]
        clear c4 z4 HV1 Hq3
        refine kS2.out.mono ?_
        rintro e w4 ⟨e4, ⟨h0, rfl⟩ | ⟨h0, ⟨kd4, x4, a4, rfl, h4⟩ | hx⟩⟩
        · refine ⟨rfl, F5.out.ef.trans F5.out.nw e4.weak, PrO.bad ?_⟩
          rw [← HR.out, if_neg (Bool.eq_false_iff.1 h0)]
        · have hR1 := HR.out
          obtain ⟨tx, htx⟩ : ∃ tx, Rf.ba (Rf.text T (n + 2)) = tx := ⟨_, rfl⟩
          rw [if_pos (by rw [h0]; rfl), htx] at hR1
          rw [show n + 1 + 1 = n + 2 from rfl, htx]
          have F6 := F5.out.small h4 e4
          have P6 := mkHid (P5.out.ef hgl e4 (.inl rfl))
          have F7 := mkHid (F6.set P6.out 3 (.string tx))
          have P7 : Hid (Pb w B #[.int .i64 11, .int .i64 0, .int .i64 0, .string tx, .slice (some ⟨q3, 0, none⟩) 1 1, .slice none 0 0, .slice none 0 0] v (w4.setCell ⟨B, 3, none⟩ (.string tx))) := P6.out.set 3 (.string tx)
          have c3 : w4.cell? ⟨B, 3, none⟩ = some (.string ⟨#[]⟩) := P6.out.cell 3 _ rfl
          have z3 : w4.frozen? ⟨B, 3, none⟩ = false := P6.out.fz 3
          obtain ⟨V2, hV2⟩ : ∃ V, w4.setCell ⟨B, 3, none⟩ (.string tx) = V := ⟨_, rfl⟩
          rw [hV2] at F7 P7
          obtain ⟨kd6, x6, a6, h6⟩ := F7.out.ps
          replace HR := mkHid hR1
          have HV2 := mkHid hV2
          clear h0 h4 e4 kS2 hR1 F6 P6 hV2 F5 P5 htx
          have kS := mkHid (prSign h6 hl hs [59] (by decide) (by decide))
          rw [show Rf.cls [59] = 112 from rfl] at kS
          clear h6
          go_wp2_with (go_at_call 62; fail)
          rw [HV2.out]
          refine kS.out.mono ?_
          rintro e w7 ⟨e7, ⟨h0, rfl⟩ | ⟨h0, ⟨kd7, x7, a7, rfl, h7⟩ | hx⟩⟩
          · refine ⟨rfl, F7.out.ef.trans F7.out.nw e7.weak, PrO.bad ?_⟩
            rw [← HR.out, if_neg (Bool.eq_false_iff.1 h0)]
          · have hR7 := HR.out
            rw [if_pos h0] at hR7
            have hjT := h7.cur.lt
            have F8 := mkHid (F7.out.small h7 e7)
            have P8 := mkHid (P7.out.ef hgl e7 (.inl rfl))
            have hNz : Hid (R = .ok (n + 4) ((E ++ ([] : List NdE)).map (·.1) ++ [{ Rf.zn 11 with names := [tn], text := tx }])) := by show R = _; rw [← hR7, List.append_nil]
            have d0 : (w7).cell? ⟨B, 0, none⟩ = some (.int .i64 11) := P8.out.cell 0 _ rfl
            have d1 : (w7).cell? ⟨B, 1, none⟩ = some (.int .i64 0) := P8.out.cell 1 _ rfl
            have d2 : (w7).cell? ⟨B, 2, none⟩ = some (.int .i64 0) := P8.out.cell 2 _ rfl
            have d3 : (w7).cell? ⟨B, 3, none⟩ = some (.string tx) := P8.out.cell 3 _ rfl
            have d4 : (w7).cell? ⟨B, 4, none⟩ = some (.slice (some ⟨q3, 0, none⟩) 1 1) := P8.out.cell 4 _ rfl
            have d5 : (w7).cell? ⟨B, 5, none⟩ = some (.slice none 0 0) := P8.out.cell 5 _ rfl
            have d6 : (w7).cell? ⟨B, 6, none⟩ = some (.slice none 0 0) := P8.out.cell 6 _ rfl
            clear h0 h7 e7 hR7 P8 P7 F7 kS
            have kA := mkHid (F8.out.add { Rf.zn 11 with names := [tn], text := tx } rfl rfl rfl (by rw [List.length_append]; first | omega | (simp; omega)))
            have hRR : Hid (R = .ok (n + 4) ((E ++ ([] : List NdE)).map (·.1) ++ [{ Rf.zn 11 with names := [tn], text := tx }])) := hNz
            clear HR F8
            unfold ndV Rf.zn at kA
            dsimp only at kA
            go_wp2_with (go_at_call 36; fail)
            refine kA.out.mono ?_
            rintro e w9 ⟨rfl, v9, A9, hA9, e9, n9, p9, f9, g9⟩
            obtain ⟨y, hy⟩ : ∃ y : Int, ((E ++ ([] : List NdE)).length : Int) = y := ⟨_, rfl⟩
            have hfin : Hid (Ef g v.ownBlock w w9 ∧ PrO g s l T n v E w R (.returned (.int .i64 y)) w9) := by rw [← hy]; exact ⟨e9, PrO.added hA9.out hRR.out n9 p9 f9 g9 (by first | omega | (simp; omega))⟩
            rw [hy]
            clear hA9 e9 n9 p9 f9 g9 kA hRR hy
            clear d0 d1 d2 d3 d4 d5 d6
            go_wp2
            go_ret
            exact hfin.out
          · obtain ⟨m1, m2, rfl⟩ := hx
            exact ⟨rfl, F7.out.ef.trans F7.out.nw e7.weak, PrO.ofX2 ⟨m1, m2, rfl⟩ (by rw [← HR.out, if_pos h0])⟩
        · obtain ⟨m1, m2, rfl⟩ := hx
          refine ⟨rfl, F5.out.ef.trans F5.out.nw e4.weak, PrO.ofX ⟨m1, m2, rfl⟩ ?_⟩
          rw [← HR.out, if_pos (by rw [h0]; rfl), is_x m2 112 (by decide)]
          rfl
      · obtain ⟨m1, m2, rfl⟩ := hx
        have hnt : Rf.isName (Rf.text T (n + 1)) = true := by rw [← hcur.out.txt h0]; exact hnm.out
        refine ⟨rfl, F2.out.ef.trans F2.out.nw e3.weak, PrO.ofX ⟨m1, m2, rfl⟩ ?_⟩
        rw [← HR.out, if_pos (by rw [h0, hnt]; rfl), if_neg (by rw [m2]; decide)]
  · obtain ⟨m1, m2, rfl⟩ := hx
    refine ⟨rfl, e1.weak, ?_⟩
    refine PrO.ofX ⟨m1, m2, rfl⟩ ?_
    rw [← HR.out, if_neg (by rw [m2]; exact fun h => absurd (Bool.and_eq_true _ _ ▸ h).1 (by decide))]
end Go.Proofs.YtlphojaeaogehaaGreatDoor
