
/- The program's reader of a script: tests and commands, whole. (By tools/gen/rpall.py.) -/

/- The program's reader of a script: the whole of it. -/

/- The program's reader of a script: its lines; what is too great. -/

/- The program's ReadFilter: its deferred closure. -/

/- The program's ReadFilter. -/
import Derived.Test.YtlphojaeaogehaaGreatDoorRpTest1
import Derived.Test.YtlphojaeaogehaaGreatDoorRpTest3
import Derived.Test.YtlphojaeaogehaaGreatDoorRpTest5
import Derived.Test.YtlphojaeaogehaaGreatDoorRpCmd2
import Derived.Test.YtlphojaeaogehaaGreatDoorRpCmd4
import Derived.Test.YtlphojaeaogehaaGreatDoorRfDepth
import Derived.OrdersHeld
import Derived.Defers
import Derived.Recover
import Derived.Laws.Pointers
namespace Go.Proofs.YtlphojaeaogehaaGreatDoor
open Go.RowKit Go.Lib Go.Maps
set_option maxRecDepth 20000 in
theorem PrC.less {fn g : Nat} {s : ByteArray} {l : List UInt8} {T : List Rf.Tk} {f f' : Nat} {P : Nat → List Nd → Rf.Out} (h : PrC fn g s l T f P) (hf : f' ≤ f) : PrC fn g s l T f' P := fun n kd x a v E w hp hG h1 h2 => h n kd x a v E w hp hG (by omega) h2
set_option maxRecDepth 20000 in
set_option maxHeartbeats 4000000 in
theorem prTestBad (g : Nat) (s : ByteArray) (l : List UInt8) (T : List Rf.Tk) (t : Nat → List Nd → Rf.Out) (hl : s.data.toList = l) (hs : s.size ≤ 100000) (n kd : Nat) (x : List UInt8) (a : Nat) (v : Value) (E : List NdE) (w : World) (h : Ps g s l T n kd x a v E w) (hG : Gl g w) (hw : (kd == 1 && Fn.isTest (Rf.lk x)) = false) :
    Calls Tryz.prog 80 #[scp g] w fun e w' => Ef g v.ownBlock w w' ∧ PrO g s l T n v E w (Rf.tst T t n (E.map (·.1))) e w' := by
  have kK := mkHid (prKind kindTst h hl hs hG.ft (fun h => by rw [hw] at h; cases h))
  rw [hw] at kK
  have HR := mkHid (Rf.tst_no T t n (E.map (·.1)) (h.cur.tst.2 hw))
  clear h hG hw
  go_enter Tryz.func80, Tryz.ntmps80
  go_wp2_with (go_at_call 54; fail)
  refine kK.out.mono ?_
  rintro e w1 ⟨e1, ⟨-, rfl⟩ | ⟨h0, -⟩⟩
  · exact ⟨rfl, e1.weak, PrO.bad HR.out⟩
  · cases h0
set_option maxRecDepth 20000 in
set_option maxHeartbeats 4000000 in
theorem prCmdBad (g : Nat) (s : ByteArray) (l : List UInt8) (T : List Rf.Tk) (t c : Nat → List Nd → Rf.Out) (hl : s.data.toList = l) (hs : s.size ≤ 100000) (n kd : Nat) (x : List UInt8) (a : Nat) (v : Value) (E : List NdE) (w : World) (h : Ps g s l T n kd x a v E w) (hG : Gl g w) (hw : (kd == 1 && Fn.isCmd (Rf.lk x)) = false) :
    Calls Tryz.prog 35 #[scp g] w fun e w' => Ef g v.ownBlock w w' ∧ PrO g s l T n v E w (Rf.cmd T t c n (E.map (·.1))) e w' := by
  have kK := mkHid (prKind kindCmd h hl hs hG.ft (fun h => by rw [hw] at h; cases h))
  rw [hw] at kK
  have HR := mkHid (Rf.cmd_no T t c n (E.map (·.1)) (h.cur.cmd.2 hw))
  clear h hG hw
  go_enter Tryz.func35, Tryz.ntmps35
  go_wp2_with (go_at_call 54; fail)
  refine kK.out.mono ?_
  rintro e w1 ⟨e1, ⟨-, rfl⟩ | ⟨h0, -⟩⟩
  · exact ⟨rfl, e1.weak, PrO.bad HR.out⟩
  · cases h0
set_option maxRecDepth 20000 in
theorem prTest (g : Nat) (s : ByteArray) (l : List UInt8) (T : List Rf.Tk) (f : Nat) (t : Nat → List Nd → Rf.Out) (hl : s.data.toList = l) (hs : s.size ≤ 100000) (hT : T.length ≤ 30000) (hGT : GoodT T) (hXt : Rf.Kx T t) (hTst : PrC 80 g s l T f t) : PrC 80 g s l T (f + 1) (Rf.tst T t) := by
  intro n kd x a v E w h hG hf hE
  cases hw : (kd == 1 && Fn.isTest (Rf.lk x)) with
  | false => exact prTestBad g s l T t hl hs n kd x a v E w h hG hw
  | true =>
    obtain ⟨-, -, q3, q4⟩ := h.cur.tst.1 hw
    rcases Rf.tstK_cases x with e | e | e | e | e | e | e | e | e | e | e | e
    · exact absurd e q4
    · exact prTest20 g s l T f t hl hs hT hXt hTst hGT n kd x a v E w h hG hf hE hw (q3.symm.trans e)
    · exact prTest21 g s l T f t hl hs hT hXt hTst hGT n kd x a v E w h hG hf hE hw (q3.symm.trans e)
    · exact prTest22 g s l T f t hl hs hT hXt hTst hGT n kd x a v E w h hG hf hE hw (q3.symm.trans e)
    · exact prTest23 g s l T f t hl hs hT hXt hTst hGT n kd x a v E w h hG hf hE hw (q3.symm.trans e)
    · exact prTest24 g s l T f t hl hs hT hXt hTst hGT n kd x a v E w h hG hf hE hw (q3.symm.trans e)
    · exact prTest25 g s l T f t hl hs hT hXt hTst hGT n kd x a v E w h hG hf hE hw (q3.symm.trans e)
    · exact prTest26 g s l T f t hl hs hT hXt hTst hGT n kd x a v E w h hG hf hE hw (q3.symm.trans e)
    · exact prTest27 g s l T f t hl hs hT hXt hTst hGT n kd x a v E w h hG hf hE hw (q3.symm.trans e)
    · exact prTest28 g s l T f t hl hs hT hXt hTst hGT n kd x a v E w h hG hf hE hw (q3.symm.trans e)
    · exact prTest29 g s l T f t hl hs hT hXt hTst hGT n kd x a v E w h hG hf hE hw (q3.symm.trans e)
    · exact prTest31 g s l T f t hl hs hT hXt hTst hGT n kd x a v E w h hG hf hE hw (q3.symm.trans e)
set_option maxRecDepth 20000 in
theorem prCmd (g : Nat) (s : ByteArray) (l : List UInt8) (T : List Rf.Tk) (f : Nat) (t c : Nat → List Nd → Rf.Out) (hl : s.data.toList = l) (hs : s.size ≤ 100000) (hT : T.length ≤ 30000) (hGT : GoodT T) (hXt : Rf.Kx T t) (hXc : Rf.Kx T c) (hTst : PrC 80 g s l T f t) (hCmd : PrC 35 g s l T f c) : PrC 35 g s l T (f + 1) (Rf.cmd T t c) := by
  intro n kd x a v E w h hG hf hE
  cases hw : (kd == 1 && Fn.isCmd (Rf.lk x)) with
  | false => exact prCmdBad g s l T t c hl hs n kd x a v E w h hG hw
  | true =>
    have hlt := h.cur.lt
    have hB := prBlock g s l T f c hl hs hT hXc hCmd
    have hC := prChoice g s l T f t c hl hs hT hXt hTst hB T.length (T.length - (n + 1)) (by omega) (by omega)
    have hB1 := hB.less (f' := T.length - (n + 1)) (by omega)
    have hX := Rf.cho_x (c := c) hXt T.length
    have hf1 : T.length ≤ n + (T.length - (n + 1) + 1) := by omega
    obtain ⟨-, -, ⟨e, q⟩ | ⟨e, q⟩ | ⟨e, q⟩ | ⟨h1, h2, h3, h4, q⟩⟩ := h.cur.cmd.1 hw
    · exact prCmdIf g s l T _ t c hl hs hT hX hC hB1 hGT n kd x a v E w h hG hf1 hE hw q e
    · exact prCmdRep g s l T _ t c hl hs hT hX hC hB1 hGT n kd x a v E w h hG hf1 hE hw q e
    · exact prCmdSet g s l T _ t c hl hs hT hX hC hB1 hGT n kd x a v E w h hG hf1 hE hw q e
    · rcases q with q | q | q | q | q | q | q
      · exact prCmd4 g s l T _ t c hl hs hT hX hC hB1 hGT n kd x a v E w h hG hf1 hE hw q h1 h2 h3 h4
      · exact prCmd5 g s l T _ t c hl hs hT hX hC hB1 hGT n kd x a v E w h hG hf1 hE hw q h1 h2 h3 h4
      · exact prCmd6 g s l T _ t c hl hs hT hX hC hB1 hGT n kd x a v E w h hG hf1 hE hw q h1 h2 h3 h4
      · exact prCmd7 g s l T _ t c hl hs hT hX hC hB1 hGT n kd x a v E w h hG hf1 hE hw q h1 h2 h3 h4
      · exact prCmd8 g s l T _ t c hl hs hT hX hC hB1 hGT n kd x a v E w h hG hf1 hE hw q h1 h2 h3 h4
      · exact prCmd9 g s l T _ t c hl hs hT hX hC hB1 hGT n kd x a v E w h hG hf1 hE hw q h1 h2 h3 h4
      · exact prCmd10 g s l T _ t c hl hs hT hX hC hB1 hGT n kd x a v E w h hG hf1 hE hw q h1 h2 h3 h4
set_option maxRecDepth 20000 in
theorem prLv (g : Nat) (s : ByteArray) (l : List UInt8) (T : List Rf.Tk) (hl : s.data.toList = l) (hs : s.size ≤ 100000) (hT : T.length ≤ 30000) (hGT : GoodT T) : ∀ f, PrC 80 g s l T f (Rf.lv T f).1 ∧ PrC 35 g s l T f (Rf.lv T f).2
  | 0 => ⟨fun n kd x a v E w h _ hf _ => by have := h.cur.lt; omega, fun n kd x a v E w h _ hf _ => by have := h.cur.lt; omega⟩
  | f + 1 => ⟨prTest g s l T f _ hl hs hT hGT (Rf.lv_x T f).1 (prLv g s l T hl hs hT hGT f).1, prCmd g s l T f _ _ hl hs hT hGT (Rf.lv_x T f).1 (Rf.lv_x T f).2 (prLv g s l T hl hs hT hGT f).1 (prLv g s l T hl hs hT hGT f).2⟩
end Go.Proofs.YtlphojaeaogehaaGreatDoor
namespace Go.Proofs.YtlphojaeaogehaaGreatDoor
open Go.RowKit Go.Lib Go.Maps
set_option maxRecDepth 20000 in
theorem Ef.fore {g : Nat} {w w1 w2 : World} (h : Ef g none w w1) (h2 : Ef g none w1 w2) : Ef g none w w2 := h.trans0 h2
/-- What comes of a whole script. -/
def ScO (g : Nat) (T : List Rf.Tk) (R : Rf.Out) (e : Ending) (w' : World) : Prop :=
  match R with
  | .ok _ N => ∃ v' A, e = .returned v' ∧ N = A.map (·.1) ∧ A.length ≤ 3 * T.length + 1 ∧ Nt (g + 1) v' A w'
  | .bad j => e = faultAt (Rf.pos T j)
set_option maxRecDepth 20000 in
set_option maxHeartbeats 4000000 in
theorem prScript (g : Nat) (s : ByteArray) (l : List UInt8) (T : List Rf.Tk) (C : Nat → List Nd → Rf.Out) (hl : s.data.toList = l) (hs : s.size ≤ 100000) (hT : T.length ≤ 30000) (hTk : Rf.tk l = T) (hX : Rf.Kx T C) (hC : PrC 35 g s l T T.length C)
    (w : World) (h : Sc (prR 0 ⟨#[]⟩ (.slice none 0 0)) w g s 0 0) (hG : Gl g w) :
    Calls Tryz.prog 16 #[scp g] w fun e w' => Ef g none w w' ∧ ScO g T (Rf.topEnd (Rf.all T C T.length 0 [] [])) e w' := by
  have kA := mkHid (scAdvance g s l T 0 0 0 0 (l.length + 1) ⟨#[]⟩ (.slice none 0 0) w hl hs (Nat.zero_le _) h (by omega) (by rw [← hTk]; rfl))
  have HC := mkHid hC
  have HX := mkHid hX
  have HGl := mkHid hG
  obtain ⟨R, hR⟩ : ∃ R, Rf.topEnd (Rf.all T C T.length 0 [] []) = R := ⟨_, rfl⟩
  rw [hR]
  replace hR := mkHid hR
  clear h hC hX hG hTk
  go_enter Tryz.func16, Tryz.ntmps16
  go_wp2_with (go_at_call 34; fail)
  refine kA.out.mono ?_
  rintro e w1 ⟨g1, ⟨kd', x', a', rfl, s1, c1⟩ | ⟨m1, m2, rfl⟩⟩
  · have e1 := Ef.of_grown g1
    have hp1 : Ps g s l T 0 kd' x' a' (.slice none 0 0) [] w1 := ⟨s1, c1, Nt.nil _ _⟩
    have hlt := c1.lt
    have S0 : Hid (∃ (m F : Nat) (A : List NdE) (ks : List Int) (v' : Value), T.length - m ≤ T.length ∧ T.length ≤ m + F ∧ m < T.length ∧ ks.length ≤ m ∧ A.length ≤ 3 * m ∧ Rf.topEnd (Rf.all T C F m (A.map (·.1)) ks) = R ∧ Pf g s l T (.slice none 0 0) [] w1 [] [] ks (.slice none 0 0) (.slice none 0 0) (.slice none 0 0) m v' A w1) :=
      ⟨0, T.length, [], [], .slice none 0 0, by omega, by omega, hlt, by simp, by simp, hR.out, Pf.start hp1 (HGl.out.ef e1 (fun _ e => by cases e))⟩
    have E1 := mkHid e1
    clear s1 c1 g1 e1 hp1 hlt hR kA HGl
    go_wp2
    go_loopg [3] (T.length) (fun q ov wr => ∃ (m F : Nat) (A : List NdE) (ks : List Int) (v' : Value), T.length - m ≤ q ∧ T.length ≤ m + F ∧ m < T.length ∧ ks.length ≤ m ∧ A.length ≤ 3 * m ∧ Rf.topEnd (Rf.all T C F m (A.map (·.1)) ks) = R ∧ Pf g s l T (.slice none 0 0) [] w1 [] [] ks (.slice none 0 0) (.slice none 0 0) ov m v' A wr)
    case atStart => exact S0.out
    case round =>
      clear S0
      obtain ⟨m, F, A, ks, v', hq, hmF, hmT, hkm, hAm, hRm, hP⟩ := hrel
      obtain ⟨o, cap, hsh⟩ := own_shape hP.od
      subst hsh
      obtain ⟨F, rfl⟩ : ∃ F', F = F' + 1 := ⟨F - 1, by omega⟩
      obtain ⟨kd1, x1, a1, hp⟩ := hP.ps
      have c3 := hp.sc.c3
      have HP := mkHid hP
      by_cases hk0 : kd1 = 0
      · have hk : Rf.kind T m = 101 := by
          rcases hp.cur.kinds with ⟨-, k1, -⟩ | ⟨e, -⟩ | ⟨e, -⟩ | ⟨e, -⟩
          · exact k1
          · omega
          · omega
          · omega
        have hR2 := hRm
        rw [Rf.all, if_pos (by rw [hk]; rfl)] at hR2
        replace hR2 : Hid (R = .ok m (A.map (·.1) ++ [{ Rf.zn 1 with kids := ks }])) := hR2.symm
        have hd : ((kd1 : Int) != 0) = false := by subst hk0; rfl
        have kAd := mkHid (HP.out.add { Rf.zn 1 with kids := ks } rfl rfl rfl (by rw [List.nil_append]; omega))
        clear hk0 hk hRm hP hp
        unfold ndV Rf.zn at kAd
        dsimp only at kAd
        go_wp2_with (go_at_call 36; fail)
        refine kAd.out.mono ?_
        rintro e w3 ⟨rfl, v2, A2, hA2, e3, n3, ⟨kd3, x3, a3, p3⟩, f3, f4⟩
        have c5 := p3.sc.c5
        have hfin : Hid (Ef g none w w3 ∧ ScO g T R (.returned v2) w3) := by
          refine ⟨E1.out.fore e3, ?_⟩
          rw [hR2.out]
          refine ⟨v2, A2, rfl, ?_, ?_, p3.nt⟩
          · rw [hA2.out]
            simp [Rf.zn]
          · rw [hA2.out]
            simp
            omega
        obtain ⟨o2, cap2, hsh2⟩ := p3.nt.shape
        clear hA2 e3 n3 f3 f4 kAd HP hR2 p3 c3 hd
        subst hsh2
        go_wp2
        go_ret
        exact hfin.out
      · have hk : ¬ Rf.kind T m = 101 := by
          have hcl : Rf.cls x1 ≠ 101 := by
            cases x1 with
            | nil => decide
            | cons c r =>
              rw [Rf.cls]
              split
              · decide
              · split
                · split <;> decide
                · split <;> decide
          rcases hp.cur.kinds with ⟨e, -⟩ | ⟨-, k1, -⟩ | ⟨-, k1, -⟩ | ⟨-, k1, -⟩
          · omega
          · rw [k1]; exact hcl
          · rw [k1]; decide
          · rw [k1]; decide
        have hd : ((kd1 : Int) != 0) = true := by rw [bne_iff_ne]; omega
        have kC := mkHid (HC.out m _ _ _ v' ([] ++ A) wr hp HP.out.gl (by omega) (by rw [List.nil_append]; omega))
        obtain ⟨Z, hZ⟩ : ∃ Z, C m (([] ++ A : List NdE).map (·.1)) = Z := ⟨_, rfl⟩
        have hR2 := hRm
        rw [Rf.all, if_neg (by simpa using hk), show A.map (·.1) = (([] ++ A : List NdE).map (·.1)) from rfl, hZ] at hR2
        rw [hZ] at kC
        replace hR2 := mkHid hR2
        clear hk0 hk hRm hP hp hZ
        go_wp2_with (go_at_call 35; fail)
        refine kC.out.mono ?_
        rintro e w3 ⟨e3, h3⟩
        clear kC c3 hd
        cases Z with
        | bad j =>
          obtain rfl : e = _ := h3
          refine ⟨rfl, E1.out.fore (HP.out.ef.trans HP.out.nw e3), ?_⟩
          rw [← hR2.out]
          exact rfl
        | ok j N =>
          rcases h3 with ⟨A1, v1, rfl, hN, hp3⟩ | hx
          · have hcn := hp3.cnt
            have hR3 : Rf.topEnd (Rf.all T C F j N (ks ++ [Rf.last N])) = R := hR2.out
            obtain ⟨z, hz⟩ : ∃ z, Rf.last N = z := ⟨_, rfl⟩
            rw [hz] at hR3 ⊢
            rw [hN, List.nil_append] at hR3
            replace hR3 := mkHid hR3
            obtain ⟨kd4, x4, a4, hp4⟩ := hp3.ps
            have hjT := hp4.cur.lt
            replace HP := mkHid (HP.out.call e3 hp3)
            clear hN hz hp3 hp4 e3 hR2
            go_wp2_with (at_builtin; go_must (refine wp_appNat rfl _ _ rfl w1.heap.size (.slice o ks.length cap) ks rfl HP.out.od z 1 rfl (by omega) HP.out.ef.size ?_; intro v4 w4 ho4 hg4 hn4; refine Hid.out ?_))
            refine mkHid ?_
            have HQ := mkHid (HP.out.kid ho4 hg4 hn4)
            clear ho4 hg4 hn4 HP
            go_wp2
            go_roundg (T.length - j)
            case measure => omega
            case rel => exact ⟨j, F, A ++ A1, ks ++ [z], v1, by omega, by omega, hjT, by simp; omega, by simp; omega, hR3.out, HQ.out⟩
          · obtain ⟨m1, m2, rfl⟩ := hx
            refine ⟨rfl, E1.out.fore (HP.out.ef.trans HP.out.nw e3), ?_⟩
            rw [← hR2.out]
            show ScO g T (Rf.topEnd (Rf.all T C F j N _)) _ _
            rw [Rf.all_x HX.out m2]
            exact rfl
  · refine ⟨rfl, Ef.of_grown g1, ?_⟩
    rw [← hR.out, Rf.all_x HX.out m2]
    exact rfl
end Go.Proofs.YtlphojaeaogehaaGreatDoor
namespace Go.Proofs.YtlphojaeaogehaaGreatDoor
open Go.RowKit Go.Lib Go.Maps
set_option maxRecDepth 20000 in
theorem count_same (c : UInt8) : ∀ l : List UInt8, Lib.countByte l c = l.count c := by
  intro l
  first | rfl | simp [Lib.countByte] | (unfold Lib.countByte; rfl)
set_option maxRecDepth 20000 in
set_option maxHeartbeats 2000000 in
theorem implLine (s : ByteArray) (p : Nat) (w : World) (hp : p ≤ s.size) (hs : s.size ≤ 100000) :
    Calls Tryz.prog 15 #[.string s, .int .i64 (p : Int)] w fun e w' => e = .returned (.int .i64 (Rf.line s.data.toList p : Int)) ∧ w = w' := by
  have kC := mkHid ((Tryz.strings_Count_one (s.extract 0 p) 10 w).mono fun e w' h => (⟨h.1, h.2.symm⟩ : _ ∧ w = w'))
  have hcl : Lib.countByte (s.extract 0 p).data.toList 10 = (s.data.toList.take p).count 10 := by
    rw [count_same]
    congr 1
    simp
  rw [hcl] at kC
  have hle : (s.data.toList.take p).count 10 ≤ 100000 := by
    have h1 := List.count_le_length (a := (10 : UInt8)) (l := s.data.toList.take p)
    rw [List.length_take] at h1
    omega
  have hln : Rf.line s.data.toList p = 1 + (s.data.toList.take p).count 10 := rfl
  rw [hln]
  clear hcl hln
  generalize (s.data.toList.take p).count 10 = k at *
  have hpI : (p : Int) ≤ (s.size : Int) := by omega
  go_enter Tryz.func15, Tryz.ntmps15
  go_wp2_with (go_at_call 33; fail)
  refine kC.out.mono ?_
  rintro e w1 ⟨rfl, rfl⟩
  go_wp2
  go_ret
  first | exact ⟨rfl, rfl⟩ | exact ⟨by simp, rfl⟩ | exact ⟨by congr 2; omega, rfl⟩
set_option maxRecDepth 20000 in
set_option maxHeartbeats 2000000 in
theorem implLong (n : Nd) (a4 a5 a6 : Option Addr) (e4 e5 e6 : Nat) (w : World) :
    Calls Tryz.prog 39 #[.agg #[.int .i64 n.kind, .int .i64 n.num, .int .i64 n.mat, .string n.text, .slice a4 n.names.length e4, .slice a5 n.keys.length e5, .slice a6 n.kids.length e6]] w fun e w' => e = .returned (.bool (Rf.long n)) ∧ Below w.heap.size w w' := by
  unfold Rf.long
  generalize n.names.length = x at *
  generalize n.keys.length = y at *
  generalize n.kids.length = z at *
  by_cases h1 : 100 < x
  · have f1 : (100 : Int) < (x : Int) := by omega
    rw [decide_eq_true h1, Bool.true_or]
    go_enter Tryz.func39, Tryz.ntmps39
    go_wp2
    go_ret
    exact ⟨rfl, (Below.refl _ _).alloc (Nat.le_refl _) _⟩
  · have f1 : ¬ (100 : Int) < (x : Int) := by omega
    rw [decide_eq_false h1, Bool.false_or]
    by_cases h2 : 100 < y
    · have f2 : (100 : Int) < (y : Int) := by omega
      rw [decide_eq_true h2]
      go_enter Tryz.func39, Tryz.ntmps39
      go_wp2
      go_ret
      exact ⟨rfl, (Below.refl _ _).alloc (Nat.le_refl _) _⟩
    · have f2 : ¬ (100 : Int) < (y : Int) := by omega
      rw [decide_eq_false h2]
      go_enter Tryz.func39, Tryz.ntmps39
      go_wp2
      go_ret
      exact ⟨rfl, (Below.refl _ _).alloc (Nat.le_refl _) _⟩
set_option maxRecDepth 20000 in
set_option maxHeartbeats 2000000 in
theorem implLongAt (o : Option Addr) (F : List Nd) (cap : Nat) (w : World) (hF : Nds w.heap.size w o F) (hlF : F.length ≤ 100000) :
    Calls Tryz.prog 63 #[.slice o F.length cap, .func (.func 39) #[] #[]] w fun e w' => ∃ r : Int, e = .returned (.int .i64 r) ∧ decide (0 ≤ r) = F.any Rf.long ∧ Below w.heap.size w w' := by
  have HF := mkHid hF
  have hEn : ∀ (args : Array Value) (w : World), (callFunc 39 args).run Tryz.prog w = .ok (.enter 39 args) w := Go.Proofs.enters_of Tryz.func39 (by kernel_rfl) rfl
  clear hF
  go_enter Tryz.func63, Tryz.ntmps63
  go_wp2
  go_loopw [8] (fun iv wr => ∃ i : Nat, i ≤ F.length ∧ iv = .int .i64 i ∧ Hid ((F.take i).any Rf.long = false) ∧ Below w.heap.size w wr) (fun iv _ => F.length - (Lib.intOf iv).toNat)
  case atStart => exact ⟨0, Nat.zero_le _, rfl, rfl, Below.refl _ _⟩
  case round =>
    obtain ⟨i, hi, rfl, hno, hb⟩ := hrel
    by_cases hlt : i < F.length
    · have hF2 := HF.out.below hb
      obtain ⟨a, v4, v5, v6, rfl, ha, hA, hI⟩ := hF2 i hlt
      obtain ⟨⟨a4, e4, rfl, -⟩, ⟨a5, e5, rfl, -⟩, ⟨a6, e6, rfl, -⟩⟩ := hI
      have hnx : Hid (Rf.long F[i] = false → (F.take (i + 1)).any Rf.long = false) := fun h0 => by
        rw [List.take_succ_eq_append_getElem hlt, List.any_append, hno.out]
        simpa using h0
      have hyes : Hid (Rf.long F[i] = true → F.any Rf.long = true) := fun h0 => List.any_eq_true.2 ⟨F[i], List.getElem_mem hlt, h0⟩
      have c0 := hA.c0
      have c1 := hA.c1
      have c2 := hA.c2
      have c3 := hA.c3
      have c4 := hA.c4
      have c5 := hA.c5
      have c6 := hA.c6
      have kL := mkHid (implLong F[i] a4 a5 a6 e4 e5 e6 wr)
      have Hb := mkHid hb
      clear hA hF2 hb
      generalize F[i] = n at *
      go_wp2_with (go_at_call 39; fail)
      refine kL.out.mono ?_
      rintro e w1 ⟨rfl, hb1⟩
      have hb2 := mkHid (Hb.out.trans (hb1.mono Hb.out.size))
      clear c0 c1 c2 c3 c4 c5 c6 hb1 kL
      cases hln : Rf.long n with
      | true =>
        replace hyes := mkHid (hyes.out hln)
        clear hln
        go_wp2
        go_ret
        exact ⟨(i : Int), rfl, by rw [hyes.out]; exact decide_eq_true (by omega), hb2.out⟩
      | false =>
        replace hnx := mkHid (hnx.out hln)
        clear hln
        go_wp2
        go_roundw
        case rel => exact ⟨i + 1, by omega, by go_num, hnx, hb2.out⟩
        case measure => simp [Lib.intOf]; omega
    · obtain rfl : i = F.length := by omega
      have hno2 : Hid (F.any Rf.long = false) := by
        have := hno.out
        rwa [List.take_length] at this
      go_wp2
      go_ret
      exact ⟨-1, rfl, by rw [hno2.out]; rfl, hb⟩
set_option maxRecDepth 20000 in
set_option maxHeartbeats 2000000 in
theorem implAnyLong (o : Option Addr) (F : List Nd) (cap : Nat) (w : World) (hF : Nds w.heap.size w o F) (hlF : F.length ≤ 100000) :
    Calls Tryz.prog 38 #[.slice o F.length cap, .func (.func 39) #[] #[]] w fun e w' => e = .returned (.bool (F.any Rf.long)) ∧ Below w.heap.size w w' := by
  have kL := mkHid (implLongAt o F cap w hF hlF)
  obtain ⟨y, hy⟩ : ∃ y, F.any Rf.long = y := ⟨_, rfl⟩
  rw [hy] at kL ⊢
  clear hF hy
  go_enter Tryz.func38, Tryz.ntmps38
  go_wp2_with (go_at_call 63; fail)
  refine kL.out.mono ?_
  rintro e w1 ⟨r, rfl, hr, hb⟩
  replace hb := mkHid hb
  subst hr
  go_wp2
  go_ret
  first | exact ⟨rfl, hb.out⟩ | exact ⟨by simp, hb.out⟩
set_option maxRecDepth 20000 in
set_option maxHeartbeats 2000000 in
theorem implGreat (o : Option Addr) (F : List Nd) (cap : Nat) (w : World) (hF : Nds w.heap.size w o F) (hlF : F.length ≤ 100000) (h1 : 1 ≤ F.length) (hfit : ∀ n ∈ F, n.fits 1048576) (hin : ∀ i, i < F.length → ∀ k ∈ Fn.kids F i, 0 ≤ k ∧ k < (i : Int)) :
    Calls Tryz.prog 17 #[.slice o F.length cap] w fun e w' => e = .returned (.bool (F.any Rf.long || (decide (2000 < F.length) || decide (20 < Tr.depTo (Fn.kids F) F.length (F.length - 1))))) ∧ Below w.heap.size w w' := by
  by_cases hg : 2000 < F.length
  · rw [decide_eq_true hg, Bool.true_or, Bool.or_true]
    have f1 : (2000 : Int) < (F.length : Int) := by omega
    clear hF hfit hin hg
    go_enter Tryz.func17, Tryz.ntmps17
    go_wp2
    go_ret
    exact ⟨rfl, Below.refl _ _⟩
  · have kD := mkHid (implDepth o F cap w hF (by omega) h1 hfit hin)
    have kL := mkHid (fun W (hb : Below w.heap.size w W) => implAnyLong o F cap W ((hF.below hb).mono hb.size) hlF)
    rw [decide_eq_false hg, Bool.false_or]
    have f1 : ¬ (2000 : Int) < (F.length : Int) := by omega
    clear hF hfit hin hg
    generalize Tr.depTo (Fn.kids F) F.length (F.length - 1) = d at *
    by_cases hd : 20 < d
    · have f2 : (20 : Int) < (d : Int) := by omega
      rw [decide_eq_true hd, Bool.or_true]
      clear kL hd
      go_enter Tryz.func17, Tryz.ntmps17
      go_wp2_with (go_at_call 37; fail)
      refine kD.out.mono ?_
      rintro e w1 ⟨rfl, hb⟩
      replace hb := mkHid hb
      go_wp2
      go_ret
      exact ⟨rfl, hb.out⟩
    · have f2 : decide ((20 : Int) < (d : Int)) = false := decide_eq_false (by omega)
      rw [decide_eq_false hd, Bool.or_false]
      obtain ⟨y, hy⟩ : ∃ y, F.any Rf.long = y := ⟨_, rfl⟩
      rw [hy] at kL ⊢
      clear hd hy
      go_enter Tryz.func17, Tryz.ntmps17
      go_wp2_with (go_at_call 37; fail)
      refine kD.out.mono ?_
      rintro e w1 ⟨rfl, hb⟩
      have kL2 := mkHid (kL.out w1 hb)
      replace hb := mkHid hb
      clear kL kD
      go_wp2_with (go_at_call 38; fail)
      refine kL2.out.mono ?_
      rintro e w2 ⟨rfl, hb2⟩
      replace hb2 := mkHid (hb.out.trans (hb2.mono hb.out.size))
      clear kL2
      go_wp2
      go_ret
      exact ⟨rfl, hb2.out⟩
end Go.Proofs.YtlphojaeaogehaaGreatDoor
namespace Go.Proofs.YtlphojaeaogehaaGreatDoor
open Go.RowKit Go.Lib Go.Maps
set_option maxRecDepth 20000 in
set_option maxHeartbeats 1000000 in
theorem faultYes (c b : Int) (w : World) :
    Calls Tryz.prog 14 #[.iface 44 (.agg #[.int .i64 c, .int .i64 b])] w fun e w' => e = .returned (.tuple #[.agg #[.int .i64 c, .int .i64 b], .bool true]) ∧ Below w.heap.size w w' := by
  have hta : ∀ w : World, (Instr.typeAssert (.iface 44 (.agg #[.int .i64 c, .int .i64 b])) 20 44 true).run Tryz.prog w = .ok (.tuple #[.agg #[.int .i64 c, .int .i64 b], .bool true]) w := fun w => by kernel_rfl
  go_enter Tryz.func14, Tryz.ntmps14
  go_wp2
  refine bodyPost_ret (v := .tuple #[.agg #[.int .i64 c, .int .i64 b], .bool true]) (by simp [results, Tryz.results14, go_sem]) rfl ⟨rfl, ?_⟩
  exact ((Below.refl _ _).alloc (Nat.le_refl _) _).alloc (by simp) _
set_option maxRecDepth 20000 in
set_option maxHeartbeats 1000000 in
theorem faultNo (w : World) :
    Calls Tryz.prog 14 #[.nilIface] w fun e w' => e = .returned (.tuple #[.agg #[.int .i64 0, .int .i64 0], .bool false]) ∧ Below w.heap.size w w' := by
  have hta : ∀ w : World, (Instr.typeAssert .nilIface 20 44 true).run Tryz.prog w = .ok (.tuple #[.agg #[.int .i64 0, .int .i64 0], .bool false]) w := fun w => by kernel_rfl
  go_enter Tryz.func14, Tryz.ntmps14
  go_wp2
  refine bodyPost_ret (v := .tuple #[.agg #[.int .i64 0, .int .i64 0], .bool false]) (by simp [results, Tryz.results14, go_sem]) rfl ⟨rfl, ?_⟩
  exact ((Below.refl _ _).alloc (Nat.le_refl _) _).alloc (by simp) _
abbrev tr0 : Obj := .cells #[.int .i64 0, .int .i64 0, .slice none 0 0] 24
set_option maxRecDepth 20000 in
set_option maxHeartbeats 1000000 in
theorem rfCatchNo (p q : Nat) (w : World) :
    CallsD Tryz.prog 13 #[.pointer (some ⟨p, 0, none⟩), .pointer (some ⟨q, 0, none⟩)] .returning w fun e u' w' => e = .returned (.tuple #[]) ∧ u' = .returning ∧ Below w.heap.size w w' := by
  refine callsD_of_wpS Tryz.func13 rfl fun c₀ cs hu => ?_
  apply wpS_seq
  apply wpS_region
  simp [wpOpsS, go_sem, recoverD, hu, Tryz.ntmps13, Exit.thenS]
  refine (faultNo w).mono ?_
  rintro e w1 ⟨rfl, hb1⟩
  simp [go_sem, Array.replicate]
  refine wpS_of_wp ?_
  go_wp2
  refine ⟨rfl, .returning, ?_, .tuple #[], by simp [results, Tryz.results13, go_sem], rfl, rfl, hb1.alloc hb1.size _⟩
  cases c₀
  simp_all
set_option maxRecDepth 20000 in
set_option maxHeartbeats 2000000 in
theorem rfCatchYes (p q b : Nat) (s : ByteArray) (w : World) (hp : w.heap[p]? = some (.cells #[.string s] 9 (0, 0))) (h : w.heap[q]? = some tr0) (hpq : p ≠ q) (hb : b ≤ s.size) (hs : s.size ≤ 100000) :
    CallsD Tryz.prog 13 #[.pointer (some ⟨p, 0, none⟩), .pointer (some ⟨q, 0, none⟩)] (.panicking [{ v := .iface 44 (.agg #[.int .i64 3, .int .i64 b]), recovered := false }]) w fun e u' w' => e = .returned (.tuple #[]) ∧ u' = .panicking [{ v := .iface 44 (.agg #[.int .i64 3, .int .i64 b]), recovered := true }] ∧
      w'.heap[q]? = some (.cells #[.int .i64 3, .int .i64 (Rf.line s.data.toList b : Int), .slice none 0 0] 24 (0, 0)) ∧ w.grownBy w' (some q) := by
  obtain ⟨ll, hll⟩ : ∃ ll, Rf.line s.data.toList b = ll := ⟨_, rfl⟩
  have kL := mkHid (fun W => implLine s b W hb hs)
  rw [hll] at kL ⊢
  clear hll
  refine callsD_of_wpS Tryz.func13 rfl fun c₀ cs hu => ?_
  apply wpS_seq
  apply wpS_region
  simp [wpOpsS, go_sem, recoverD, hu, Tryz.ntmps13, Exit.thenS]
  refine (faultYes 3 b w).mono ?_
  rintro e w1 ⟨rfl, hb1⟩
  simp [go_sem, Array.replicate]
  have hpl := heap_ltM hp
  have hql := heap_ltM h
  have hbA : Below w.heap.size w (w1.alloc (.cells #[.int .i64 3, .int .i64 b] 44)) := hb1.alloc hb1.size _
  have hf : (w1.alloc (.cells #[.int .i64 3, .int .i64 b] 44)).heap[w1.heap.size]? = some (.cells #[.int .i64 3, .int .i64 b] 44 (0, 0)) := heap_alloc_at _ _
  have hr := (hbA.block q hql).trans h
  have hp1 := (hbA.block p hpl).trans hp
  have hfq : w1.heap.size ≠ q := by have := hb1.size; omega
  have HbA := mkHid hbA
  obtain ⟨V, hV⟩ : ∃ V, w1.alloc (.cells #[.int .i64 3, .int .i64 b] 44) = V := ⟨_, rfl⟩
  obtain ⟨k, hk⟩ : ∃ k, w1.heap.size = k := ⟨_, rfl⟩
  rw [hV] at hf hr hp1 HbA
  rw [hk] at hf hfq
  have hS : V.cell? ⟨k, 0, none⟩ = some (.int .i64 3) ∧ V.cell? ⟨k, 1, none⟩ = some (.int .i64 b) ∧ V.cell? ⟨p, 0, none⟩ = some (.string s) := ⟨by simp [World.cell?, hf], by simp [World.cell?, hf], by simp [World.cell?, hp1]⟩
  have HV := mkHid hV
  have Hk := mkHid hk
  have Hr := mkHid hr
  clear hV hk h hp hbA hb1 hr
  refine wpS_of_wp ?_
  go_wp2
  rw [HV.out, Hk.out]
  refine wp_region_held (S := fun w => w.cell? ⟨k, 0, none⟩ = some (.int .i64 3) ∧ w.cell? ⟨k, 1, none⟩ = some (.int .i64 b) ∧ w.cell? ⟨p, 0, none⟩ = some (.string s)) (by kernel_rfl) ?_
  refine wpAnyH_take (i := 0) (v := .pointer (some ⟨k, 0, none⟩)) rfl (by kernel_rfl) (by kernel_rfl) (by kernel_rfl) (fun _ _ _ h => h) (Or.inl ⟨by rfl, ?_⟩) hS ?_
  · rintro w ⟨s1, s2, s3⟩
    go_simp
    all_goals first | done | (intro h; exfalso; omega) | omega
  go_simp
  refine wpAnyH_take (i := 1) (v := .int .i64 3) rfl (by kernel_rfl) (by kernel_rfl) (by kernel_rfl) (fun _ _ _ h => h) (Or.inl ⟨by rfl, ?_⟩) hS ?_
  · rintro w ⟨s1, s2, s3⟩
    go_simp
    all_goals first | done | (intro h; exfalso; omega) | omega
  go_simp
  refine wpAnyH_take (i := 2) (v := .string s) rfl (by kernel_rfl) (by kernel_rfl) (by kernel_rfl) (fun _ _ _ h => h) (Or.inl ⟨by rfl, ?_⟩) hS ?_
  · rintro w ⟨s1, s2, s3⟩
    go_simp
    all_goals first | done | (intro h; exfalso; omega) | omega
  go_simp
  refine wpAnyH_take (i := 3) (v := .pointer (some ⟨k, 1, none⟩)) rfl (by kernel_rfl) (by kernel_rfl) (by kernel_rfl) (fun _ _ _ h => h) (Or.inl ⟨by rfl, ?_⟩) hS ?_
  · rintro w ⟨s1, s2, s3⟩
    go_simp
    all_goals first | done | (intro h; exfalso; omega) | omega
  go_simp
  refine wpAnyH_take (i := 4) (v := .int .i64 b) rfl (by kernel_rfl) (by kernel_rfl) (by kernel_rfl) (fun _ _ _ h => h) (Or.inl ⟨by rfl, ?_⟩) hS ?_
  · rintro w ⟨s1, s2, s3⟩
    go_simp
    all_goals first | done | (intro h; exfalso; omega) | omega
  go_simp
  refine wpAnyH_all (rs := [5]) (by kernel_rfl) (by simp) ?_
  intro j hj
  simp only [List.mem_cons, List.not_mem_nil, or_false] at hj
  subst hj
  refine wpOp_step rfl (fun K hK => ?_)
  go_simp
  refine (kL.out _).mono ?_
  rintro e w2 ⟨rfl, rfl⟩
  go_simp
  refine hK _ _ ⟨hS, ?_⟩
  clear hK K
  go_simp
  refine wpAnyH_take (i := 6) (v := .agg #[.int .i64 3, .int .i64 (ll : Int), .slice none 0 0]) rfl (by kernel_rfl) (by kernel_rfl) (by kernel_rfl) (fun _ _ _ h => h) (Or.inl ⟨by rfl, ?_⟩) hS ?_
  · rintro w ⟨s1, s2, s3⟩
    go_simp
    all_goals first | done | (intro h; exfalso; omega) | omega
  go_simp
  refine wpAnyH_all (rs := [7]) (by kernel_rfl) (by simp) ?_
  intro j hj
  simp only [List.mem_cons, List.not_mem_nil, or_false] at hj
  subst hj
  refine wpOp_step rfl (fun K hK => ?_)
  refine wp_store_row 24 _ _ rfl q #[.int .i64 3, .int .i64 (ll : Int), .slice none 0 0] rfl rfl 24 _ Hr.out (by kernel_rfl) rfl (by simp [Value.oneCell']) ?_
  refine hK _ _ ⟨?_, ?_⟩
  · have kp : ∀ (b n : Nat) (x : Value), b ≠ q → V.cell? ⟨b, n, none⟩ = some x → (V.setRow q #[.int .i64 3, .int .i64 (ll : Int), .slice none 0 0]).cell? ⟨b, n, none⟩ = some x := fun b n x hb hx => (World.cell?_of_block (a := ⟨b, n, none⟩) ((grown_setRow V q _).block b (World.block_lt_of_cell? _ _ hx) (by simpa using hb))).trans hx
    exact ⟨kp k 0 _ hfq hS.1, kp k 1 _ hfq hS.2.1, kp p 0 _ hpq hS.2.2⟩
  clear hK K
  go_simp
  refine wpAnyH_done (by kernel_rfl) ?_ _
  refine ⟨rfl, _, ?_, .tuple #[], by simp [results, Tryz.results13, go_sem], rfl, rfl, ?_, ?_⟩
  · rfl
  · exact setRow_heap _ _ _ _ _ _ Hr.out
  · exact grown_trans (grown_below (below_drew HbA.out)) (grown_setRow _ _ _)
end Go.Proofs.YtlphojaeaogehaaGreatDoor
namespace Go.Proofs.YtlphojaeaogehaaGreatDoor
open Go.RowKit Go.Lib Go.Maps
set_option maxRecDepth 20000 in
theorem alloc_last (w : World) (o : Obj) : (w.alloc o).heap[w.heap.size]? = some o := by simp only [World.alloc, Array.getElem?_push_size]
set_option maxRecDepth 20000 in
theorem grown_to {w w' : World} {g B : Nat} (h : w.grownBy w' (some g)) (hB : B ≤ g) (hw : B ≤ w.heap.size) : Below B w w' :=
  ⟨h.os, h.tape, h.output, h.size, fun k hk => h.block k (by omega) (by intro e; have := Option.some.inj e; omega)⟩
set_option maxRecDepth 20000 in
theorem three_cells {w : World} {g : Nat} {a b c : Value} {t : TypeId} (h : w.heap[g]? = some (.cells #[a, b, c] t (0, 0))) :
    (w.cell? ⟨g, 0, none⟩ = some a ∧ w.cell? ⟨g, 1, none⟩ = some b ∧ w.cell? ⟨g, 2, none⟩ = some c) ∧ w.frozen? ⟨g, 0, none⟩ = false ∧ w.frozen? ⟨g, 1, none⟩ = false ∧ w.frozen? ⟨g, 2, none⟩ = false := by
  simp [World.cell?, World.frozen?, h]
abbrev rd0 (s : ByteArray) : Obj := .cells #[.string s, .int .i64 0, .int .i64 0, .int .i64 0, .string ⟨#[]⟩, .slice none 0 0] 53
abbrev bx9 (s : ByteArray) : Obj := .cells #[.string s] 9
set_option maxRecDepth 20000 in
theorem pos_le {l : List UInt8} {T : List Rf.Tk} (h : Rf.Tok1 l T) (j : Nat) : Rf.pos T j ≤ l.length := by
  unfold Rf.pos
  by_cases hj : j < T.length
  · rw [List.getElem?_eq_getElem hj]
    exact h.place _ (List.getElem_mem hj)
  · rw [List.getElem?_eq_none (by omega)]
    exact Nat.zero_le _
set_option maxRecDepth 20000 in
set_option maxHeartbeats 4000000 in
theorem implReadBig (s : ByteArray) (w : World) (hs : 10000 < s.size) :
    Calls Tryz.prog 5 #[.string s] w fun e w' => e = .returned (.agg #[.int .i64 2, .int .i64 0, .slice none 0 0]) ∧ Below w.heap.size w w' := by
  have f1 : (10000 : Int) < (s.size : Int) := by omega
  clear hs
  go_enter_defers Tryz.func5, Tryz.ntmps5
  go_wp2
  have hr : ((w.alloc (.cells #[.string s] 9)).alloc (.cells #[.int .i64 2, .int .i64 0, .slice none 0 0] 24)).heap[w.heap.size + 1]? = some (.cells #[.int .i64 2, .int .i64 0, .slice none 0 0] 24 (0, 0)) := by
    have h1 := alloc_last (w.alloc (.cells #[.string s] 9)) (.cells #[.int .i64 2, .int .i64 0, .slice none 0 0] 24)
    rwa [show (w.alloc (.cells #[.string s] 9)).heap.size = w.heap.size + 1 from by simp] at h1
  have hb : Below w.heap.size w ((w.alloc (.cells #[.string s] 9)).alloc (.cells #[.int .i64 2, .int .i64 0, .slice none 0 0] 24)) := ((Below.refl w.heap.size w).alloc (Nat.le_refl _) _).alloc (by simp) _
  obtain ⟨V, hV⟩ : ∃ V, (w.alloc (.cells #[.string s] 9)).alloc (.cells #[.int .i64 2, .int .i64 0, .slice none 0 0] 24) = V := ⟨_, rfl⟩
  rw [hV] at hr hb ⊢
  obtain ⟨⟨q0, q1, q2⟩, z0, z1, z2⟩ := three_cells hr
  have Hb := mkHid hb
  clear hV hr hb
  simp [bodyPostD, Leaves, results, Tryz.results5, go_sem, q0, q1, q2]
  exact Hb.out
set_option maxRecDepth 20000 in
set_option maxHeartbeats 4000000 in
theorem implReadF (s : ByteArray) (w : World) (hs : s.size ≤ 10000) (hF : FTab w) (hM : MTab w) (hE : Er w) :
    Calls Tryz.prog 5 #[.string s] w fun e w' => ∃ v E, e = .returned (.agg #[.int .i64 (Rf.ans s.data.toList).1, .int .i64 ((Rf.ans s.data.toList).2.1 : Int), v]) ∧ Nt w.heap.size v E w' ∧ E.map (·.1) = (Rf.ans s.data.toList).2.2 ∧ Below w.heap.size w w' := by
  obtain ⟨l, hl⟩ : ∃ l, s.data.toList = l := ⟨_, rfl⟩
  have hn : l.length = s.size := by rw [← hl]; simp
  obtain ⟨T, hT⟩ : ∃ T, Rf.tk l = T := ⟨_, rfl⟩
  obtain ⟨Z, hZ⟩ : ∃ Z, Rf.ans l = Z := ⟨_, rfl⟩
  obtain ⟨R, hR⟩ : ∃ R, Rf.script T = R := ⟨_, rfl⟩
  have hZR : Z = Rf.fin l T R := by rw [← hZ, ← hR, ← hT]; rfl
  rw [hl, hZ]
  have hone := Rf.tk_one l
  rw [hT] at hone
  have hTl : T.length ≤ 30000 := by have := hone.2; omega
  have hsm := tks_small l (by omega)
  rw [hT] at hsm
  have hmf : ∀ (fn : Fn) (first cap : Array Value) (w : World), (Instr.makeFunc fn first cap).run Tryz.prog w = .ok (.func fn first cap) w := fun _ _ _ _ => rfl
  have f1 : ¬ (10000 : Int) < (s.size : Int) := by omega
  have hz : (((w.alloc (bx9 s)).alloc tr0).alloc (rd0 s)).heap.size = w.heap.size + 3 := by simp
  obtain ⟨W, hW⟩ : ∃ W, ((w.alloc (bx9 s)).alloc tr0).alloc (rd0 s) = W := ⟨_, rfl⟩
  have hb0 : Below w.heap.size w W := by rw [← hW]; exact (((Below.refl w.heap.size w).alloc (Nat.le_refl _) _).alloc (by simp) _).alloc (by simp; omega) _
  have hg0 : W.heap[w.heap.size + 2]? = some (rd0 s) := by
    have h1 := alloc_last ((w.alloc (bx9 s)).alloc tr0) (rd0 s)
    rw [show ((w.alloc (bx9 s)).alloc tr0).heap.size = w.heap.size + 2 from by simp] at h1
    rw [← hW]
    exact h1
  have hq0 : W.heap[w.heap.size + 1]? = some tr0 := by
    have h1 := alloc_last (w.alloc (bx9 s)) tr0
    rw [show (w.alloc (bx9 s)).heap.size = w.heap.size + 1 from by simp] at h1
    rw [← hW]
    exact (Below.heap_alloc ((w.alloc (bx9 s)).alloc tr0) _ (w.heap.size + 1) (by simp)).trans h1
  have hp0 : W.heap[w.heap.size]? = some (bx9 s) := by
    rw [← hW]
    exact ((Below.heap_alloc ((w.alloc (bx9 s)).alloc tr0) _ w.heap.size (by simp; omega)).trans (Below.heap_alloc (w.alloc (bx9 s)) _ w.heap.size (by simp))).trans (alloc_last w (bx9 s))
  rw [hW] at hz
  obtain ⟨g, hg⟩ : ∃ g, w.heap.size + 2 = g := ⟨_, rfl⟩
  rw [hg] at hg0
  have hsc : Sc (prR 0 ⟨#[]⟩ (.slice none 0 0)) W g s 0 0 := ⟨hg0⟩
  have hG : Gl g W := by
    obtain ⟨t1, fr1, hF⟩ := hF
    obtain ⟨t2, fr2, hM⟩ := hM
    have a1 := heap_ltM hF
    have a2 := heap_ltM hM
    obtain ⟨ev, b1, b2⟩ := hE.syn
    obtain ⟨er, c1, c2⟩ := hE.rng
    have a3 := World.block_lt_of_cell? _ _ b1
    have a4 := World.block_lt_of_cell? _ _ c1
    dsimp only at a3 a4
    exact ⟨⟨t1, fr1, (hb0.block _ a1).trans hF⟩, ⟨t2, fr2, (hb0.block _ a2).trans hM⟩, ⟨⟨ev, (World.cell?_of_block (hb0.block _ a3)).trans b1, b2⟩, ⟨er, (World.cell?_of_block (hb0.block _ a4)).trans c1, c2⟩⟩, by omega, by omega, by omega, by omega⟩
  have hGT : GoodT T := hone.1.num
  have kS := prScript g s l T (Rf.lv T T.length).2 hl (by omega) hTl hT (Rf.lv_x T T.length).2 (prLv g s l T hl (by omega) hTl hGT T.length).2 W hsc hG
  rw [← Rf.script_eq, hR] at kS
  replace kS := mkHid kS
  have Hp0 := mkHid hp0
  have Hq0 := mkHid hq0
  have Hb0 := mkHid hb0
  have HZ := mkHid hZR
  have Hone := mkHid hone
  have Hgood : Hid (∀ j N, R = .ok j N → Rf.Good T N ∧ 0 < N.length) := fun j N e => Rf.script_ok hsm (hR.trans e)
  have HW := mkHid hW
  have Hg := mkHid hg
  have Hz := mkHid hz
  have Hl := mkHid hl
  have Hn := mkHid hn
  clear hF hM hE hp0 hq0 hb0 hZR hone hW hg hz hl hn hG hsc hg0 hT hR hZ hsm hGT
  go_enter_defers Tryz.func5, Tryz.ntmps5
  go_wp2_with (go_at_call 16; fail)
  rw [HW.out, Hg.out]
  refine kS.out.mono ?_
  rintro e w3 ⟨e3, h3⟩
  have hg := Hg.out
  have hz := Hz.out
  have hsz3 := e3.size
  have hp3 := mkHid ((e3.keep w.heap.size (by omega) (by omega) (by simp)).trans Hp0.out)
  have hq3 := mkHid ((e3.keep (w.heap.size + 1) (by omega) (by omega) (by simp)).trans Hq0.out)
  have hb3 : Hid (Below w.heap.size w w3) := ⟨e3.os.trans Hb0.out.os, e3.tape.trans Hb0.out.tape, e3.output.trans Hb0.out.output, Nat.le_trans Hb0.out.size e3.size, fun k hk => (e3.keep k (by omega) (by omega) (by simp)).trans (Hb0.out.block k hk)⟩
  clear kS Hp0 Hq0 Hb0 HW
  cases R with
  | bad j =>
    obtain rfl : e = _ := h3
    have hple : Rf.pos T j ≤ s.size := by rw [← Hn.out]; exact pos_le Hone.out.1 j
    have hy := rfCatchYes w.heap.size (w.heap.size + 1) (Rf.pos T j) s w3 hp3.out hq3.out (by omega) hple (by omega)
    rw [Hl.out] at hy
    refine leaves_cons (f := 13) (args := #[.pointer (some ⟨w.heap.size, 0, none⟩), .pointer (some ⟨w.heap.size + 1, 0, none⟩)]) (by simp) (by simp [go_sem]) ?_
    refine hy.mono ?_
    rintro e u' w'' ⟨rfl, rfl, h4, g4⟩
    obtain ⟨⟨q0, q1, q2⟩, z0, z1, z2⟩ := three_cells h4
    have hbz := mkHid (hb3.out.trans (grown_to g4 (by omega) (by omega)))
    have hz2 : Hid (Z = (3, Rf.line l (Rf.pos T j), [])) := HZ.out
    clear g4 h4 hy hp3 hq3 hb3 HZ
    simp [Leaves, settle, results, Tryz.results5, go_sem, q0, q1, q2]
    exact ⟨_, ⟨by rw [hz2.out], by rw [hz2.out], rfl⟩, [], Nt.nil _ _, by rw [hz2.out]; rfl, hbz.out⟩
  | ok j N =>
    obtain ⟨v', A, rfl, hN, hlA, hnt⟩ := h3
    obtain ⟨o, cap, hsh⟩ := hnt.shape
    subst hsh
    have hAN : A.length = N.length := by rw [hN]; simp
    have hnds := hnt.nds
    rw [← hN] at hnds
    obtain ⟨hgo, hpos⟩ := Hgood.out j N rfl
    obtain ⟨hfi, hin⟩ := good_fits hgo hTl
    have kG := implGreat o N cap w3 hnds (by rw [← hAN]; omega) hpos hfi hin
    obtain ⟨y, hy⟩ : ∃ y, (N.any Rf.long || (decide (2000 < N.length) || decide (20 < Tr.depTo (Fn.kids N) N.length (N.length - 1)))) = y := ⟨_, rfl⟩
    rw [hy, ← hAN] at kG
    replace kG := mkHid kG
    have hZ1 : Hid (Z = if y = true then (4, 0, []) else (0, 0, N)) := by
      show Z = _
      rw [HZ.out, ← hy]
      rfl
    replace hnt := mkHid (hnt.lower (B' := w.heap.size + 2) (by omega))
    replace hN := mkHid hN
    clear hnds hgo hpos hfi hin hy HZ Hgood Hone hAN
    go_wp2_with (go_at_call 17; fail)
    refine kG.out.mono ?_
    rintro e w4 ⟨rfl, hb4⟩
    have hq4 := (hb4.block _ (heap_ltM hq3.out)).trans hq3.out
    have hb5 := mkHid (hb3.out.trans (hb4.mono (by omega)))
    have hn4 := mkHid (hnt.out.below hb4)
    obtain ⟨⟨q0, q1, q2⟩, z0, z1, z2⟩ := three_cells hq4
    have Hq := mkHid hq4
    have hs4 := hb4.size
    clear hb4 hq4 hb3 hq3 hp3 hnt kG e3
    cases y with
    | true =>
      obtain ⟨V, hV⟩ : ∃ V, ((w4.setCell ⟨w.heap.size + 1, 0, none⟩ (.int .i64 4)).setCell ⟨w.heap.size + 1, 1, none⟩ (.int .i64 0)).setCell ⟨w.heap.size + 1, 2, none⟩ (.slice none 0 0) = V := ⟨_, rfl⟩
      have h5 : V.heap[w.heap.size + 1]? = some (.cells #[.int .i64 4, .int .i64 0, .slice none 0 0] 24 (0, 0)) := by
        have := Hq.out
        rw [← hV]
        simp [World.setCell, Array.getElem?_modify, this]
      have g5 : w4.grownBy V (some (w.heap.size + 1)) := by rw [← hV]; exact grown_trans (grown_trans (grown_set _ _ _ _) (grown_set _ _ _ _)) (grown_set _ _ _ _)
      have HV := mkHid hV
      clear hV
      go_wp2
      rw [HV.out]
      clear q0 q1 q2 z0 z1 z2
      refine leaves_cons (f := 13) (args := #[.pointer (some ⟨w.heap.size, 0, none⟩), .pointer (some ⟨w.heap.size + 1, 0, none⟩)]) (by simp) (by simp [go_sem]) ?_
      refine (rfCatchNo w.heap.size (w.heap.size + 1) V).mono ?_
      rintro e u' w6 ⟨rfl, rfl, hb6⟩
      obtain ⟨⟨q0, q1, q2⟩, z0, z1, z2⟩ := three_cells ((hb6.block _ (heap_ltM h5)).trans h5)
      have hg5s := g5.size
      have hbz := mkHid ((hb5.out.trans (grown_to g5 (by omega) (by omega))).trans (hb6.mono (by omega)))
      have hz2 := mkHid (show Z = (4, 0, []) from hZ1.out)
      clear hb6 g5 h5 hb5 hn4 HV Hq hZ1
      simp [Leaves, settle, results, Tryz.results5, go_sem, q0, q1, q2]
      exact ⟨_, ⟨by rw [hz2.out], by rw [hz2.out]; rfl, rfl⟩, [], Nt.nil _ _, by rw [hz2.out]; rfl, hbz.out⟩
    | false =>
      obtain ⟨V, hV⟩ : ∃ V, ((w4.setCell ⟨w.heap.size + 1, 0, none⟩ (.int .i64 0)).setCell ⟨w.heap.size + 1, 1, none⟩ (.int .i64 0)).setCell ⟨w.heap.size + 1, 2, none⟩ (.slice o A.length cap) = V := ⟨_, rfl⟩
      have h5 : V.heap[w.heap.size + 1]? = some (.cells #[.int .i64 0, .int .i64 0, .slice o A.length cap] 24 (0, 0)) := by
        have := Hq.out
        rw [← hV]
        simp [World.setCell, Array.getElem?_modify, this]
      have g5 : w4.grownBy V (some (w.heap.size + 1)) := by rw [← hV]; exact grown_trans (grown_trans (grown_set _ _ _ _) (grown_set _ _ _ _)) (grown_set _ _ _ _)
      have n5 : Nt (w.heap.size + 2) (.slice o A.length cap) A V := by rw [← hV]; exact ((hn4.out.set (by omega)).set (by omega)).set (by omega)
      have HV := mkHid hV
      clear hV
      go_wp2
      rw [HV.out]
      clear q0 q1 q2 z0 z1 z2
      refine leaves_cons (f := 13) (args := #[.pointer (some ⟨w.heap.size, 0, none⟩), .pointer (some ⟨w.heap.size + 1, 0, none⟩)]) (by simp) (by simp [go_sem]) ?_
      refine (rfCatchNo w.heap.size (w.heap.size + 1) V).mono ?_
      rintro e u' w6 ⟨rfl, rfl, hb6⟩
      obtain ⟨⟨q0, q1, q2⟩, z0, z1, z2⟩ := three_cells ((hb6.block _ (heap_ltM h5)).trans h5)
      have hg5s := g5.size
      have hbz := mkHid ((hb5.out.trans (grown_to g5 (by omega) (by omega))).trans (hb6.mono (by omega)))
      have hnz := mkHid ((n5.below hb6).lower (B' := w.heap.size) (by omega))
      have hz2 := mkHid (show Z = (0, 0, N) from hZ1.out)
      clear hb6 g5 h5 hb5 hn4 HV Hq hZ1 n5
      simp [Leaves, settle, results, Tryz.results5, go_sem, q0, q1, q2]
      exact ⟨_, ⟨by rw [hz2.out], by rw [hz2.out]; rfl, rfl⟩, A, hnz.out, by rw [hz2.out]; exact hN.out.symm, hbz.out⟩
end Go.Proofs.YtlphojaeaogehaaGreatDoor
