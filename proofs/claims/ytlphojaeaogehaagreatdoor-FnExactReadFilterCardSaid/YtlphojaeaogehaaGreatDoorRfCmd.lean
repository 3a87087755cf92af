
/- The specification's reader of a script: every test. (By tools/gen/rftest.py.) -/

/- The specification's reader of a script: a command. (By tools/gen/rfcmd.py.) -/
import Derived.Test.YtlphojaeaogehaaGreatDoorRfTest2
import Derived.Test.YtlphojaeaogehaaGreatDoorRfTest3
import Derived.Test.YtlphojaeaogehaaGreatDoorRfTest4
namespace Go.Proofs.YtlphojaeaogehaaGreatDoor
open Go.RowKit Go.Lib Go.Maps

set_option maxRecDepth 20000 in
theorem Ef.weak {g : Nat} {r : Option Nat} {w w' : World} (h : Ef g none w w') : Ef g r w w' := ⟨h.os, h.tape, h.output, h.size, fun k hk hg _ => h.keep k hk hg (by simp)⟩
set_option maxRecDepth 20000 in
theorem Rf.tst_no (T : List Rf.Tk) (t : Nat → List Nd → Rf.Out) (i : Nat) (N : List Nd) (h : Rf.kind T i ≠ 119 ∨ Rf.tstK (Rf.text T i) = 0) : Rf.tst T t i N = .bad i := by
  unfold Rf.tst
  rw [if_neg]
  intro e
  rw [Bool.and_eq_true, beq_iff_eq, bne_iff_ne] at e
  rcases h with h | h
  · exact h e.1
  · exact e.2 h
set_option maxRecDepth 20000 in
/-- A reading that ends where it began. -/
theorem RdP.none {g : Nat} {tv : Value} {T : List Rf.Tk} {TE : List TkE} {P : Nat → List Nd → Rf.Out} {i : Nat} {bad many : Bool} {v : Value} {E : List NdE} {w w' : World} (h : Rs g tv TE i true many v E w') (he : Ef g none w w') (hi : i < T.length) (hR : Rf.given bad i (P i (E.map (·.1))) = .bad i) : RdP g tv T TE 0 P i bad many v E w 0 [] i true many v w' :=
  RdP.mk2 _ rfl (by rw [List.append_nil]; exact h) he.weak (.inl rfl) (fun _ h => (List.not_mem_nil h).elim) (fun _ h => (List.not_mem_nil h).elim) hi (Nat.le_refl _) (by simp) (fun e => (by cases e)) (fun _ => hR) (fun e => (by cases e))
set_option maxRecDepth 20000 in
set_option maxHeartbeats 4000000 in
theorem specTestBad (g : Nat) (tv : Value) (l : List UInt8) (T : List Rf.Tk) (TE : List TkE) (i : Nat) (bad many : Bool) (v : Value) (E : List NdE) (w : World) (hK : Tks l T TE) (h : Rs g tv TE i bad many v E w) (hi : i < T.length) (hy : bad = true ∨ Rf.kind T i ≠ 119 ∨ Rf.tstK (Rf.text T i) = 0) :
    Calls Tryz.prog 47 #[.pointer (some ⟨g, 0, none⟩)] w fun e w' => e = .returned (.int .i64 0) ∧ Rs g tv TE i true many v E w' ∧ Ef g none w w' := by
  have hll := hK.length
  have hi2 : i < TE.length := by omega
  have hC : ∀ W : World, Calls Tryz.prog 66 #[.string TE[i].2.1] W fun e w' => e = .returned (.int .i64 (Rf.tstK (Rf.text T i))) ∧ w' = W := fun W => (specTstW TE[i].2.1 W).mono fun _ _ h => ⟨by rw [h.1, hK.text i hi2, Rf.ba_list], h.2.symm⟩
  obtain ⟨c0, c1, c2, c3, c4⟩ := five h.blk
  obtain ⟨o, cap, rfl⟩ := h.tks.shape
  obtain ⟨q, rfl, -, -, e0, e1, e2⟩ := h.tks.at i hi2
  have hii : (i : Int) < (TE.length : Int) := by omega
  have key : ∀ W, Below w.heap.size w W → Hid (W.frozen? ⟨g, 2, none⟩ = false ∧ W.cell? ⟨g, 2, none⟩ = some (.bool bad) ∧ Rs g (.slice (some ⟨q, 0, none⟩) TE.length cap) TE i true many v E (W.setCell ⟨g, 2, none⟩ (.bool true)) ∧ Ef g none w (W.setCell ⟨g, 2, none⟩ (.bool true))) := fun W hb => by
    have h1 := h.below hb
    exact ⟨by simp [World.frozen?, h1.blk], (five h1.blk).2.2.1, h1.set 2 (.bool true) i true many rfl, Ef.ahead hb (Ef.set g none W 2 _)⟩
  have hkd := hK.kind i hi2
  generalize TE[i].1 = k1 at *
  generalize TE[i].2.1 = t1 at *
  generalize Rf.tstK (Rf.text T i) = z at *
  rw [← hkd] at hy
  clear h hkd hK
  cases bad
  · by_cases hk : k1 = 119
    · have hk1 : ((k1 : Int) != 119) = false := by rw [bne_eq_false_iff_eq, hk]; rfl
      have hmz : z = 0 := by rcases hy with hy | hy | hy; cases hy; exact absurd hk hy; exact hy
      subst hmz
      replace hC := mkHid hC
      clear hy hk
      go_enter Tryz.func47, Tryz.ntmps47
      go_wp2
      go_quiet (exact Calls.quiet_of_same (hC.out _))
      obtain ⟨z1, z0, K2⟩ := key (w.drewN nq) (below_drewN (Below.refl _ _) _)
      replace K2 := mkHid K2
      go_wp2
      go_ret
      exact ⟨rfl, K2.out.1, K2.out.2⟩
    · have hk1 : ((k1 : Int) != 119) = true := by rw [bne_iff_ne]; intro e; exact hk (by omega)
      clear hy hk hC
      go_enter Tryz.func47, Tryz.ntmps47
      go_wp2
      go_quiet (fail)
      obtain ⟨z1, z0, K2⟩ := key (w.drewN nq) (below_drewN (Below.refl _ _) _)
      replace K2 := mkHid K2
      go_wp2
      go_ret
      exact ⟨rfl, K2.out.1, K2.out.2⟩
  · clear hy hC
    go_enter Tryz.func47, Tryz.ntmps47
    go_wp2
    go_quiet (fail)
    obtain ⟨z1, z0, K2⟩ := key (w.drewN nq) (below_drewN (Below.refl _ _) _)
    replace K2 := mkHid K2
    go_wp2
    go_ret
    exact ⟨rfl, K2.out.1, K2.out.2⟩
set_option maxRecDepth 20000 in
theorem Rf.tstK_cases (x : List UInt8) : Rf.tstK x = 0 ∨ Rf.tstK x = 20 ∨ Rf.tstK x = 21 ∨ Rf.tstK x = 22 ∨ Rf.tstK x = 23 ∨ Rf.tstK x = 24 ∨ Rf.tstK x = 25 ∨ Rf.tstK x = 26 ∨ Rf.tstK x = 27 ∨ Rf.tstK x = 28 ∨ Rf.tstK x = 29 ∨ Rf.tstK x = 31 := by
  unfold Rf.tstK
  split
  · simp
  · split
    · simp
    · split
      · simp
      · split
        · simp
        · split
          · simp
          · split
            · simp
            · split
              · simp
              · split
                · simp
                · split
                  · simp
                  · split
                    · simp
                    · split <;> simp
set_option maxRecDepth 20000 in
theorem specTest (g : Nat) (tv : Value) (l : List UInt8) (T : List Rf.Tk) (TE : List TkE) (f : Nat) (t : Nat → List Nd → Rf.Out) (hK : Tks l T TE) (hT : T.length ≤ 30000) (hTst : RdC 47 g tv T TE 0 f t) :
    RdC 47 g tv T TE 0 (f + 1) (Rf.tst T t) := by
  intro i bad many v E w h hi hf hE
  by_cases hb : bad = true ∨ Rf.kind T i ≠ 119 ∨ Rf.tstK (Rf.text T i) = 0
  · refine (specTestBad g tv l T TE i bad many v E w hK h hi hb).mono ?_
    rintro e w' ⟨rfl, h1, e1⟩
    refine ⟨0, [], i, true, many, v, rfl, RdP.none h1 e1 hi ?_⟩
    cases hbb : bad
    · rw [Rf.given, if_neg (by decide)]
      refine Rf.tst_no T t i _ ?_
      rcases hb with hb | hb
      · rw [hbb] at hb; cases hb
      · exact hb
    · rfl
  · have h1 : bad = false := by cases bad; rfl; exact absurd (.inl rfl) hb
    have h2 : Rf.kind T i = 119 := Classical.byContradiction fun e => hb (.inr (.inl e))
    subst h1
    rcases Rf.tstK_cases (Rf.text T i) with e | e | e | e | e | e | e | e | e | e | e | e
    · exact absurd (.inr (.inr e)) hb
    · exact specTest20 g tv l T TE f t hK hT i many v E w h hi hf hE h2 e
    · exact specTest21 g tv l T TE f t hK hT i many v E w h hi hf hE h2 e
    · exact specTest22 g tv l T TE f t hK hT hTst i many v E w h hi hf hE h2 e
    · exact specTest23 g tv l T TE f t hK hT hTst i many v E w h hi hf hE h2 e
    · exact specTest24 g tv l T TE f t hK hT hTst i many v E w h hi hf hE h2 e
    · exact specTest25 g tv l T TE f t hK hT i many v E w h hi hf hE h2 e
    · exact specTest26 g tv l T TE f t hK hT i many v E w h hi hf hE h2 e
    · exact specTest27 g tv l T TE f t hK hT i many v E w h hi hf hE h2 e
    · exact specTest28 g tv l T TE f t hK hT i many v E w h hi hf hE h2 e
    · exact specTest29 g tv l T TE f t hK hT i many v E w h hi hf hE h2 e
    · exact specTest31 g tv l T TE f t hK hT i many v E w h hi hf hE h2 e
end Go.Proofs.YtlphojaeaogehaaGreatDoor
namespace Go.Proofs.YtlphojaeaogehaaGreatDoor
open Go.RowKit Go.Lib Go.Maps
set_option maxRecDepth 20000 in
theorem RdC.less {fn g : Nat} {tv : Value} {T : List Rf.Tk} {TE : List TkE} {c f f' : Nat} {P : Nat → List Nd → Rf.Out} (h : RdC fn g tv T TE c f P) (hf : f' ≤ f) : RdC fn g tv T TE c f' P :=
  fun i bad many v E w h1 h2 h3 h4 => h i bad many v E w h1 h2 (by omega) h4
set_option maxRecDepth 20000 in
theorem Rf.is_eq {T : List Rf.Tk} {i k : Nat} {t : List UInt8} (h : Rf.is T i k t = true) : Rf.kind T i = k ∧ Rf.text T i = t := by
  unfold Rf.is at h
  simpa using h
set_option maxRecDepth 20000 in
theorem Rf.is_ne {T : List Rf.Tk} {i k : Nat} {t : List UInt8} (h : Rf.is T i k t = false) (hk : Rf.kind T i = k) : (Rf.text T i == t) = false := by
  unfold Rf.is at h
  rw [hk] at h
  simpa using h
set_option maxRecDepth 20000 in
theorem Rf.cmd_if (T : List Rf.Tk) (t c : Nat → List Nd → Rf.Out) (i : Nat) (N : List Nd) (h : Rf.is T i 119 Rf.wIf = true) : Rf.cmd T t c i N = Rf.cho T t c T.length (i + 1) N := by
  obtain ⟨h1, h2⟩ := Rf.is_eq h
  unfold Rf.cmd
  rw [h1, h2]
  rfl
def Rf.repEnd (n : Int) : Rf.Out → Rf.Out
  | .ok i' N' => .ok i' (N' ++ [{ Rf.zn 3 with num := n, kids := [Rf.last N'] }])
  | .bad j => .bad j
set_option maxRecDepth 20000 in
theorem Rf.cmd_rep (T : List Rf.Tk) (t c : Nat → List Nd → Rf.Out) (i : Nat) (N : List Nd) (h : Rf.is T i 119 Rf.wRepeat = true) : Rf.cmd T t c i N = if (Rf.kind T (i + 1) == 110 && decide (Rf.num (Rf.text T (i + 1)) ≤ 100)) = true then Rf.repEnd (Rf.num (Rf.text T (i + 1)) : Int) (Rf.blk T c (i + 2) N) else .bad (i + 1) := by
  obtain ⟨h1, h2⟩ := Rf.is_eq h
  unfold Rf.cmd
  rw [h1, h2]
  show (if (Rf.kind T (i + 1) == 110 && decide (Rf.num (Rf.text T (i + 1)) ≤ 100)) = true then (match Rf.blk T c (i + 2) N with | .ok i' N' => _ | .bad j => _) else _) = _
  split
  · cases Rf.blk T c (i + 2) N <;> rfl
  · rfl
set_option maxRecDepth 20000 in
theorem Rf.cmd_set (T : List Rf.Tk) (t c : Nat → List Nd → Rf.Out) (i : Nat) (N : List Nd) (h : Rf.is T i 119 Rf.wSet = true) : Rf.cmd T t c i N = if (Rf.kind T (i + 1) == 116 && Rf.isName (Rf.text T (i + 1))) = true then (if (Rf.kind T (i + 2) == 116) = true then (if Rf.is T (i + 3) 112 [59] = true then .ok (i + 4) (N ++ [{ Rf.zn 11 with names := [Rf.ba (Rf.text T (i + 1))], text := Rf.ba (Rf.text T (i + 2)) }]) else .bad (i + 3)) else .bad (i + 2)) else .bad (i + 1) := by
  obtain ⟨h1, h2⟩ := Rf.is_eq h
  unfold Rf.cmd
  rw [h1, h2]
  rfl
set_option maxRecDepth 20000 in
theorem Rf.cmd_one (T : List Rf.Tk) (t c : Nat → List Nd → Rf.Out) (i : Nat) (N : List Nd) (k : Int) (hk : Rf.kind T i = 119) (h1 : (Rf.text T i == Rf.wIf) = false) (h2 : (Rf.text T i == Rf.wRepeat) = false) (h3 : (Rf.text T i == Rf.wSet) = false) (h4 : Rf.cmdK (Rf.text T i) = k) (h0 : k ≠ 0) (h7 : ¬ 7 ≤ k) : Rf.cmd T t c i N = if Rf.is T (i + 1) 112 [59] = true then .ok (i + 2) (N ++ [Rf.zn k]) else .bad (i + 1) := by
  unfold Rf.cmd
  rw [hk, h1, h2, h3, h4]
  simp only [beq_self_eq_true, if_true, Bool.false_eq_true, if_false]
  rw [if_neg (by simpa using h0), if_neg h7]
set_option maxRecDepth 20000 in
theorem Rf.cmd_two (T : List Rf.Tk) (t c : Nat → List Nd → Rf.Out) (i : Nat) (N : List Nd) (k : Int) (hk : Rf.kind T i = 119) (h1 : (Rf.text T i == Rf.wIf) = false) (h2 : (Rf.text T i == Rf.wRepeat) = false) (h3 : (Rf.text T i == Rf.wSet) = false) (h4 : Rf.cmdK (Rf.text T i) = k) (h0 : k ≠ 0) (h7 : 7 ≤ k) : Rf.cmd T t c i N = if (Rf.kind T (i + 1) == 116) = true then (if Rf.is T (i + 2) 112 [59] = true then .ok (i + 3) (N ++ [{ Rf.zn k with text := Rf.ba (Rf.text T (i + 1)) }]) else .bad (i + 2)) else .bad (i + 1) := by
  unfold Rf.cmd
  rw [hk, h1, h2, h3, h4]
  simp only [beq_self_eq_true, if_true, Bool.false_eq_true, if_false]
  rw [if_neg (by simpa using h0), if_pos h7]
set_option maxRecDepth 20000 in
theorem Rf.cmd_no (T : List Rf.Tk) (t c : Nat → List Nd → Rf.Out) (i : Nat) (N : List Nd) (h : Rf.kind T i ≠ 119 ∨ (Rf.is T i 119 Rf.wIf = false ∧ Rf.is T i 119 Rf.wRepeat = false ∧ Rf.is T i 119 Rf.wSet = false ∧ Rf.cmdK (Rf.text T i) = 0)) : Rf.cmd T t c i N = .bad i := by
  unfold Rf.cmd
  by_cases hk : Rf.kind T i = 119
  · rcases h with h | ⟨h1, h2, h3, h4⟩
    · exact absurd hk h
    · rw [Rf.is_ne h1 hk, Rf.is_ne h2 hk, Rf.is_ne h3 hk, h4, hk]
      rfl
  · rw [if_neg (by simpa using hk)]
set_option maxRecDepth 20000 in
/-- A reading that begins behind a small call. -/
theorem RdP.behind {g : Nat} {tv : Value} {T : List Rf.Tk} {TE : List TkE} {c : Nat} {P Q : Nat → List Nd → Rf.Out} {i : Nat} {many : Bool} {v : Value} {E : List NdE} {w w1 : World} {z : Int} {A : List NdE} {i' : Nat} {bad' many' : Bool} {v' : Value} {w' : World} (e1 : Ef g Option.none w w1) (h : RdP g tv T TE c P (i + 1) false many v E w1 z A i' bad' many' v' w') (hc : c ≤ 2) (hQ : Q i (E.map (·.1)) = P (i + 1) (E.map (·.1))) : RdP g tv T TE 0 Q i false many v E w z A i' bad' many' v' w' := by
  have hs := e1.size
  have h1 := h.lt
  have h2 := h.le
  have h3 := h.cnt
  obtain ⟨q1, q2⟩ := h.given
  refine RdP.mk2 _ rfl h.rs (Ef.trans e1.weak (.inl rfl) h.ef) (h.nw.ahead hs) ?_ ?_ h1 (by omega) (by omega) (fun e => ⟨by have := h.cnt0 e; omega, by omega⟩) (fun e => ?_) (fun e => ?_)
  · exact fun s hm => (h.fr s hm).imp id fun hx k hk => Nat.le_trans hs (hx k hk)
  · exact fun s hm => (h.frN s hm).imp id fun hx k hk => Nat.le_trans hs (hx k hk)
  · rw [Rf.given, if_neg (by decide), hQ]; exact q1 e
  · rw [Rf.given, if_neg (by decide), hQ]; exact q2 e
set_option maxRecDepth 20000 in
theorem name_same (t : List UInt8) : Fn.nameOk (Rf.ba t) = Rf.isName t := by
  have e : (Rf.ba t).data.toList = t := by simp [Rf.ba]
  have e2 : (Rf.ba t).size = t.length := by simp [Rf.ba, ByteArray.size]
  unfold Fn.nameOk Rf.isName
  rw [e, e2, Bool.and_assoc]
  rfl

set_option maxRecDepth 20000 in
set_option maxHeartbeats 8000000 in
theorem specCmdIf (g : Nat) (tv : Value) (l : List UInt8) (T : List Rf.Tk) (TE : List TkE) (t c : Nat → List Nd → Rf.Out) (hK : Tks l T TE) (_hT : T.length ≤ 30000) (f : Nat) (hBr : RdC 26 g tv T TE 2 f (Rf.cho T t c T.length)) (i : Nat) (many : Bool) (v : Value) (E : List NdE) (w : World) (h : Rs g tv TE i false many v E w) (hi : i < T.length) (hE : E.length ≤ 3 * i + 5) (hf : T.length ≤ i + 1 + f) (hy : Rf.is T i 119 Rf.wIf = true) :
    Calls Tryz.prog 10 #[.pointer (some ⟨g, 0, none⟩)] w fun e w' => ∃ z A i' bad' many' v', e = .returned (.int .i64 z) ∧ RdP g tv T TE 0 (Rf.cmd T t c) i false many v E w z A i' bad' many' v' w' := by
  have hnx : i + 1 < T.length := hK.is_nxt i hi 119 _ hy
  have H0 := mkHid (Rf.cmd_if T t c i (E.map (·.1)) hy)
  have HB := mkHid hBr
  have kM := mkHid (jMay hK h hi 119 Rf.wIf)
  have HE := mkHid hE
  have Hy := mkHid hy
  clear h hK hBr hE hy
  go_enter Tryz.func10, Tryz.ntmps10
  go_wp2_with (go_at_call 25; fail)
  refine kM.out.mono ?_
  rintro e W1 ⟨j1, y1, rfl, h1, e1, hj1, hij1, hij1b, r1, s1⟩
  obtain rfl : y1 = true := by rw [r1.out, Hy.out]; rfl
  obtain rfl : j1 = i + 1 := s1.out
  have kB := mkHid (HB.out (i + 1) false many v E W1 h1 hj1 hf (by have := HE.out; omega))
  replace e1 := mkHid e1
  clear h1 kM r1 s1
  go_wp2_with (go_at_call 26; fail)
  refine kB.out.mono ?_
  rintro e W2 ⟨z, A, i', bad', many', v', rfl, hp⟩
  replace hp := mkHid hp
  go_wp2
  go_ret
  exact ⟨z, A, i', bad', many', v', rfl, hp.out.behind e1.out (by decide) H0.out⟩
set_option maxRecDepth 20000 in
set_option maxHeartbeats 8000000 in
theorem specCmdRep (g : Nat) (tv : Value) (l : List UInt8) (T : List Rf.Tk) (TE : List TkE) (t c : Nat → List Nd → Rf.Out) (hK : Tks l T TE) (hT : T.length ≤ 30000) (f : Nat) (hBlk : RdC 28 g tv T TE 1 f (Rf.blk T c)) (i : Nat) (many : Bool) (v : Value) (E : List NdE) (w : World) (h : Rs g tv TE i false many v E w) (hi : i < T.length) (hE : E.length ≤ 3 * i + 5) (hf : T.length ≤ i + 1 + f) (n1 : Rf.is T i 119 Rf.wIf = false) (hy : Rf.is T i 119 Rf.wRepeat = true) :
    Calls Tryz.prog 10 #[.pointer (some ⟨g, 0, none⟩)] w fun e w' => ∃ z A i' bad' many' v', e = .returned (.int .i64 z) ∧ RdP g tv T TE 0 (Rf.cmd T t c) i false many v E w z A i' bad' many' v' w' := by
  have hnx : i + 1 < T.length := hK.is_nxt i hi 119 _ hy
  obtain ⟨R, hR⟩ : ∃ R, R = Rf.given false i (Rf.cmd T t c i (E.map (·.1))) := ⟨_, rfl⟩
  have HR := mkHid hR
  have H0 := mkHid (Rf.cmd_rep T t c i (E.map (·.1)) hy)
  have hgl := heap_ltM h.blk
  have hll := hK.length
  have hl := hK.len
  have hi2 : i < TE.length := by omega
  have HK := mkHid hK
  have HE := mkHid hE
  have kM := mkHid (jMay hK h hi 119 Rf.wIf)
  have nIf := mkHid n1
  have HBlk := mkHid hBlk
  have Hy := mkHid hy
  clear h hK hE hR n1 hBlk hy
  go_enter Tryz.func10, Tryz.ntmps10
  go_wp2_with (go_at_call 25; fail)
  refine kM.out.mono ?_
  rintro e w1 ⟨j1, y1, rfl, h1, e1, hj1, hij1, hij1b, r1, s1⟩
  obtain rfl : y1 = false := by rw [r1.out, nIf.out]; rfl
  obtain rfl : j1 = i := s1.out
  obtain ⟨B, hB⟩ : ∃ B, w1.heap.size = B := ⟨_, rfl⟩
  have S0 := mkHid (Fm.start hgl h1 e1 0)
  rw [hB] at S0
  obtain ⟨W0, hW0⟩ : ∃ W0, w1.alloc (.cells #[.int .i64 0, .int .i64 0, .int .i64 0, .string ⟨#[]⟩, .slice none 0 0, .slice none 0 0, .slice none 0 0] 37) = W0 := ⟨_, rfl⟩
  rw [show w1.alloc (.cells (sevC (Rf.zn 0) (.slice none 0 0) (.slice none 0 0) (.slice none 0 0)) 37) = W0 from hW0] at S0
  have HW0 := mkHid hW0
  have HB := mkHid hB
  clear h1 e1 kM hW0 hB r1 s1
  have kM := mkHid (jMay HK.out S0.out.rs hi 119 Rf.wRepeat)
  go_wp2_with (go_at_call 25; fail)
  rw [HW0.out, HB.out]
  refine kM.out.mono ?_
  rintro e W1 ⟨j2, y2, rfl, h2, e2, hj2, hij2, hij2b, r2, s2⟩
  have S1 := mkHid (S0.out.small h2 e2)
  clear h2 e2 kM S0 HW0 HB
  obtain rfl : y2 = true := by rw [r2.out, Hy.out]; rfl
  obtain rfl : j2 = j1 + 1 := s2.out
  clear r2 s2
  have z0 := S1.out.frz 0
  have S2 := mkHid (S1.out.pokeS 0 (.int .i64 3) (Rf.zn 3) rfl rfl rfl rfl)
  obtain ⟨W2, hW2⟩ : ∃ W2, W1.setCell ⟨B, 0, none⟩ (.int .i64 3) = W2 := ⟨_, rfl⟩
  rw [hW2] at S2
  have HW2 := mkHid hW2
  clear hW2
  have hbk := S1.out.blk
  have d0 : W1.cell? ⟨B, 0, none⟩ = some (.int .i64 0) := by simp [World.cell?, hbk]; try rfl
  have d1 : W1.cell? ⟨B, 1, none⟩ = some (.int .i64 0) := by simp [World.cell?, hbk]; try rfl
  have d2 : W1.cell? ⟨B, 2, none⟩ = some (.int .i64 0) := by simp [World.cell?, hbk]; try rfl
  have d3 : W1.cell? ⟨B, 3, none⟩ = some (.string ⟨#[]⟩) := by simp [World.cell?, hbk]; try rfl
  have d4 : W1.cell? ⟨B, 4, none⟩ = some (.slice none 0 0) := by simp [World.cell?, hbk]; try rfl
  have d5 : W1.cell? ⟨B, 5, none⟩ = some (.slice none 0 0) := by simp [World.cell?, hbk]; try rfl
  have d6 : W1.cell? ⟨B, 6, none⟩ = some (.slice none 0 0) := by simp [World.cell?, hbk]; try rfl
  clear hbk
  clear S1
  have kN := mkHid (jNumber HK.out S2.out.rs hj2 100)
  go_wp2_with (go_at_call 27; fail)
  rw [HW2.out]
  refine kN.out.mono ?_
  rintro e W3 ⟨j3, y3, x3, rfl, h3, e3, hj3, hij3, hij3b, r3, s3, x3e⟩
  clear d0 d1 d2 d3 d4 d5 d6
  have S3 := mkHid (S2.out.small h3 e3)
  have z1 := S3.out.frz 1
  have S4' := mkHid (S3.out.pokeS 1 (.int .i64 (x3 : Int)) { Rf.zn 3 with num := (x3 : Int) } rfl rfl rfl rfl)
  obtain ⟨W4, hW4⟩ : ∃ W4, W3.setCell ⟨B, 1, none⟩ (.int .i64 (x3 : Int)) = W4 := ⟨_, rfl⟩
  rw [hW4] at S4'
  have HW4 := mkHid hW4
  clear hW4
  have hbk := S3.out.blk
  have d0 : W3.cell? ⟨B, 0, none⟩ = some (.int .i64 3) := by simp [World.cell?, hbk]; try rfl
  have d1 : W3.cell? ⟨B, 1, none⟩ = some (.int .i64 0) := by simp [World.cell?, hbk]; try rfl
  have d2 : W3.cell? ⟨B, 2, none⟩ = some (.int .i64 0) := by simp [World.cell?, hbk]; try rfl
  have d3 : W3.cell? ⟨B, 3, none⟩ = some (.string ⟨#[]⟩) := by simp [World.cell?, hbk]; try rfl
  have d4 : W3.cell? ⟨B, 4, none⟩ = some (.slice none 0 0) := by simp [World.cell?, hbk]; try rfl
  have d5 : W3.cell? ⟨B, 5, none⟩ = some (.slice none 0 0) := by simp [World.cell?, hbk]; try rfl
  have d6 : W3.cell? ⟨B, 6, none⟩ = some (.slice none 0 0) := by simp [World.cell?, hbk]; try rfl
  clear hbk
  clear S3 S2 kN h3 e3 HW2 z0
  obtain ⟨bd3, hbd3⟩ : ∃ b, (!y3) = b := ⟨_, rfl⟩
  rw [hbd3] at S4'
  replace hbd3 := mkHid hbd3
  obtain ⟨nn, hnn⟩ : ∃ x : Nd, x = { Rf.zn 3 with num := (x3 : Int) } := ⟨_, rfl⟩
  obtain ⟨ks0, A0, vd0, hks0, hA0, S4⟩ : ∃ (ks0 : List Int) (A0 : List NdE) (vd0 : Value), Hid (ks0 = []) ∧ Hid (A0 = []) ∧ Hid (Fm g tv TE v E w B { ({ Rf.zn 3 with num := (x3 : Int) } : Nd) with kids := ks0 } (.slice none 0 0) (.slice none 0 0) vd0 j3 bd3 many v A0 W4) := ⟨[], [], .slice none 0 0, rfl, rfl, S4'⟩
  clear hnn nn S4'
  have hl0 : A0.length < 1 := by rw [hA0.out]; decide
  have hk0 : ks0.length ≤ 5 := by rw [hks0.out]; decide
  go_wp2
  rw [HW4.out]
  clear d0 d1 d2 d3 d4 d5 d6 z1
  obtain ⟨RR, hRR⟩ : ∃ RR : Act → Act → World → Prop, RR = (fun a a' w' => ∃ (z5 : Int) (X5 : List NdE) (j5 : Nat) (bd5 mn5 : Bool) (v5 vd5 : Value) (hh5 : Nat) (u5 : World), a' = (((((((a.put (some 16) (.pointer (some ⟨B, 6, none⟩))).put (some 17) vd0).put (some 18) (.pointer (some ⟨g, 0, none⟩))).put (some 19) (.int .i64 z5)).put (some 20) (.slice (some ⟨hh5, 0, none⟩) 1 1)).put (some 21) vd5).put (some 22) (.pointer (some ⟨B, 6, none⟩))) ∧ Hid (Fm g tv TE v E w B { ({ Rf.zn 3 with num := (x3 : Int) } : Nd) with kids := ks0 ++ [z5] } (.slice none 0 0) (.slice none 0 0) vd5 j5 bd5 mn5 v5 (A0 ++ X5) w') ∧ Hid (RdP g tv T TE 1 (Rf.blk T c) j3 bd3 many v (E ++ A0) W4.drew z5 X5 j5 bd5 mn5 v5 u5)) := ⟨_, rfl⟩
  have HRR := mkHid hRR
  clear hRR
  refine wp_cut RR ?_ ?_
  · have SD := mkHid (S4.out.small (S4.out.rs.below (below_drew (Below.refl _ _))) (Ef.of_below (below_drew (Below.refl _ _))))
    have kC := mkHid (HBlk.out j3 bd3 many v (E ++ A0) W4.drew SD.out.rs hj3 (by omega) (by have := HE.out; rw [List.length_append]; omega))
    obtain ⟨oD, cD, eD⟩ := own_shape S4.out.od
    subst eD
    have y0 : W4.cell? ⟨B, 6, none⟩ = some (.slice oD ks0.length cD) := by simp [World.cell?, S4.out.blk]
    refine wp_region_any (by kernel_rfl) ?_
    refine wpAny_take (i := 0) (v := (.pointer (some ⟨B, 6, none⟩))) rfl (by kernel_rfl) (by kernel_rfl) (by kernel_rfl) (fun _ _ _ h => nomatch h.1) (Or.inl ⟨by rfl, ?_⟩) ?_
    · intro w
      go_simp
      all_goals first | done | (intro h; exfalso; omega) | omega
    go_simp
    refine wpAny_take (i := 2) (v := (.pointer (some ⟨g, 0, none⟩))) rfl (by kernel_rfl) (by kernel_rfl) (by kernel_rfl) (fun _ _ _ h => nomatch h.1) (Or.inl ⟨by rfl, ?_⟩) ?_
    · intro w
      go_simp
      all_goals first | done | (intro h; exfalso; omega) | omega
    go_simp
    refine wpAny_ready (rs := [1, 3]) (by kernel_rfl) (by simp) ?_
    refine AllReady.cons rfl (fun K hK => ?_) (AllReady.cons rfl (fun K hK => ?_) AllReady.nil)
    · skip
      go_simp
      refine hK _ _ ?_
      clear hK K
      go_simp
      refine wpAny_ready (rs := [3]) (by kernel_rfl) (by simp) ?_
      refine AllReady.cons rfl (fun K hK => ?_) AllReady.nil
      go_simp
      refine kC.out.mono ?_
      rintro e u5 ⟨z5, X5, j5, bd5, mn5, v5, rfl, hp⟩
      have S3 := mkHid (SD.out.call hp)
      have P5 := mkHid hp
      clear hp
      have y3 : u5.cell? ⟨B, 6, none⟩ = some (.slice oD ks0.length cD) := by simp [World.cell?, S3.out.blk]
      have y4 : (u5.alloc (.cells #[.int .i64 z5] 2)).cell? ⟨B, 6, none⟩ = some (.slice oD ks0.length cD) := (World.cell?_of_block (((Below.refl u5.heap.size u5).alloc (Nat.le_refl _) _).block B (heap_ltM S3.out.blk))).trans y3
      go_simp
      refine hK _ _ ?_
      clear hK K
      go_simp
      refine wpAny_ready (rs := [4]) (by kernel_rfl) (by simp) ?_
      refine AllReady.cons rfl (fun K hK => ?_) AllReady.nil
      go_simp
      refine hK _ _ ?_
      clear hK K
      go_simp
      refine wpAny_ready (rs := [5]) (by kernel_rfl) (by simp) ?_
      refine AllReady.cons rfl (fun K hK => ?_) AllReady.nil
      refine opAppKd _ _ rfl w.heap.size (.slice oD ks0.length cD) ks0 rfl (S3.out.od.below ((Below.refl _ _).alloc (Nat.le_refl _) _)) z5 u5.heap.size 1 rfl (by simp) (by omega) (by have := S3.out.ef.size; simp; omega) ?_
      intro vd5 w4 ho4 hg4 hn4
      obtain ⟨x6, z6, s5⟩ := S3.out.kid ho4 hg4 hn4
      obtain ⟨o5, c5, e5⟩ := own_shape ho4
      rw [List.length_append, List.length_singleton] at e5
      subst e5
      have S5 := mkHid s5
      clear s5 ho4 hg4 hn4
      refine hK _ _ ?_
      clear hK K
      go_simp
      refine wpAny_take (i := 6) (v := (.pointer (some ⟨B, 6, none⟩))) rfl (by kernel_rfl) (by kernel_rfl) (by kernel_rfl) (fun _ _ _ h => nomatch h.1) (Or.inl ⟨by rfl, ?_⟩) ?_
      · intro w
        go_simp
        all_goals first | done | (intro h; exfalso; omega) | omega
      go_simp
      refine wpAny_ready (rs := [7]) (by kernel_rfl) (by simp) ?_
      refine AllReady.cons rfl (fun K hK => ?_) AllReady.nil
      go_simp
      refine hK _ _ ?_
      clear hK K
      go_simp
      refine wpAny_done (by kernel_rfl) ?_ _
      first | refine ⟨rfl, ?_⟩ | skip
      rw [HRR.out]
      exact ⟨z5, X5, j5, bd5, mn5, v5, .slice o5 (ks0.length + 1) c5, u5.heap.size, u5, by kernel_rfl, S5, P5⟩
    · skip
      go_simp
      refine kC.out.mono ?_
      rintro e u5 ⟨z5, X5, j5, bd5, mn5, v5, rfl, hp⟩
      have S3 := mkHid (SD.out.call hp)
      have P5 := mkHid hp
      clear hp
      have y3 : u5.cell? ⟨B, 6, none⟩ = some (.slice oD ks0.length cD) := by simp [World.cell?, S3.out.blk]
      have y4 : (u5.alloc (.cells #[.int .i64 z5] 2)).cell? ⟨B, 6, none⟩ = some (.slice oD ks0.length cD) := (World.cell?_of_block (((Below.refl u5.heap.size u5).alloc (Nat.le_refl _) _).block B (heap_ltM S3.out.blk))).trans y3
      go_simp
      refine hK _ _ ?_
      clear hK K
      go_simp
      refine wpAny_ready (rs := [1, 4]) (by kernel_rfl) (by simp) ?_
      refine AllReady.cons rfl (fun K hK => ?_) (AllReady.cons rfl (fun K hK => ?_) AllReady.nil)
      · skip
        go_simp
        refine hK _ _ ?_
        clear hK K
        go_simp
        refine wpAny_ready (rs := [4]) (by kernel_rfl) (by simp) ?_
        refine AllReady.cons rfl (fun K hK => ?_) AllReady.nil
        go_simp
        refine hK _ _ ?_
        clear hK K
        go_simp
        refine wpAny_ready (rs := [5]) (by kernel_rfl) (by simp) ?_
        refine AllReady.cons rfl (fun K hK => ?_) AllReady.nil
        refine opAppKd _ _ rfl w.heap.size (.slice oD ks0.length cD) ks0 rfl (S3.out.od.below ((Below.refl _ _).alloc (Nat.le_refl _) _)) z5 u5.heap.size 1 rfl (by simp) (by omega) (by have := S3.out.ef.size; simp; omega) ?_
        intro vd5 w4 ho4 hg4 hn4
        obtain ⟨x6, z6, s5⟩ := S3.out.kid ho4 hg4 hn4
        obtain ⟨o5, c5, e5⟩ := own_shape ho4
        rw [List.length_append, List.length_singleton] at e5
        subst e5
        have S5 := mkHid s5
        clear s5 ho4 hg4 hn4
        refine hK _ _ ?_
        clear hK K
        go_simp
        refine wpAny_take (i := 6) (v := (.pointer (some ⟨B, 6, none⟩))) rfl (by kernel_rfl) (by kernel_rfl) (by kernel_rfl) (fun _ _ _ h => nomatch h.1) (Or.inl ⟨by rfl, ?_⟩) ?_
        · intro w
          go_simp
          all_goals first | done | (intro h; exfalso; omega) | omega
        go_simp
        refine wpAny_ready (rs := [7]) (by kernel_rfl) (by simp) ?_
        refine AllReady.cons rfl (fun K hK => ?_) AllReady.nil
        go_simp
        refine hK _ _ ?_
        clear hK K
        go_simp
        refine wpAny_done (by kernel_rfl) ?_ _
        first | refine ⟨rfl, ?_⟩ | skip
        rw [HRR.out]
        exact ⟨z5, X5, j5, bd5, mn5, v5, .slice o5 (ks0.length + 1) c5, u5.heap.size, u5, by kernel_rfl, S5, P5⟩
      · skip
        go_simp
        refine hK _ _ ?_
        clear hK K
        go_simp
        refine wpAny_ready (rs := [1]) (by kernel_rfl) (by simp) ?_
        refine AllReady.cons rfl (fun K hK => ?_) AllReady.nil
        go_simp
        refine hK _ _ ?_
        clear hK K
        go_simp
        refine wpAny_ready (rs := [5]) (by kernel_rfl) (by simp) ?_
        refine AllReady.cons rfl (fun K hK => ?_) AllReady.nil
        refine opAppKd _ _ rfl w.heap.size (.slice oD ks0.length cD) ks0 rfl (S3.out.od.below ((Below.refl _ _).alloc (Nat.le_refl _) _)) z5 u5.heap.size 1 rfl (by simp) (by omega) (by have := S3.out.ef.size; simp; omega) ?_
        intro vd5 w4 ho4 hg4 hn4
        obtain ⟨x6, z6, s5⟩ := S3.out.kid ho4 hg4 hn4
        obtain ⟨o5, c5, e5⟩ := own_shape ho4
        rw [List.length_append, List.length_singleton] at e5
        subst e5
        have S5 := mkHid s5
        clear s5 ho4 hg4 hn4
        refine hK _ _ ?_
        clear hK K
        go_simp
        refine wpAny_take (i := 6) (v := (.pointer (some ⟨B, 6, none⟩))) rfl (by kernel_rfl) (by kernel_rfl) (by kernel_rfl) (fun _ _ _ h => nomatch h.1) (Or.inl ⟨by rfl, ?_⟩) ?_
        · intro w
          go_simp
          all_goals first | done | (intro h; exfalso; omega) | omega
        go_simp
        refine wpAny_ready (rs := [7]) (by kernel_rfl) (by simp) ?_
        refine AllReady.cons rfl (fun K hK => ?_) AllReady.nil
        go_simp
        refine hK _ _ ?_
        clear hK K
        go_simp
        refine wpAny_done (by kernel_rfl) ?_ _
        first | refine ⟨rfl, ?_⟩ | skip
        rw [HRR.out]
        exact ⟨z5, X5, j5, bd5, mn5, v5, .slice o5 (ks0.length + 1) c5, u5.heap.size, u5, by kernel_rfl, S5, P5⟩
  rw [HRR.out]
  clear HRR RR
  rintro a' W5 ⟨z5, X5, j5, bd5, mn5, v5, vd5, hh5, u5, rfl, S5, P5⟩
  obtain ⟨ks5, hks5⟩ : ∃ x, ks0 ++ [z5] = x := ⟨_, rfl⟩
  obtain ⟨A5, hA5⟩ : ∃ x, A0 ++ X5 = x := ⟨_, rfl⟩
  rw [hks5, hA5] at S5
  have q5 := mkHid P5.out.res
  have hlt5 := P5.out.lt
  have hle5 := P5.out.le
  have hcn5 := P5.out.cnt
  have hc05 := mkHid P5.out.cnt0
  have hl5 : A5.length = A0.length + X5.length := by rw [← hA5, List.length_append]
  replace hks5 := mkHid hks5
  replace hA5 := mkHid hA5
  clear P5 S4
  have G1 : Hid ((bd5 = true → R = .bad j5) ∧ (bd5 = false → j1 + 2 ≤ j5 ∧ R = .ok j5 ((E ++ A5).map (·.1) ++ [{ ({ Rf.zn 3 with num := (x3 : Int) } : Nd) with kids := ks5 }]) ∧ mn5 = (many || big A5))) := by
    have q := q5.out
    have hA := hA5.out
    have hk := hks5.out
    have r3 := r3.out
    have s3 := s3.out
    have x3e := x3e.out
    have hb3 := hbd3.out
    have hh := H0.out
    rw [hA0.out] at q hA
    rw [hks0.out] at hk
    rw [List.append_nil] at q
    rw [List.nil_append] at hA hk
    rw [hA] at q
    rw [HR.out, Rf.given, if_neg (by decide), hh]
    cases y3
    · obtain rfl : bd3 = true := hb3.symm
      simp only [Bool.false_eq_true, if_false] at s3
      subst s3
      rw [if_neg (Bool.eq_false_iff.1 (show (Rf.kind T (j1 + 1) == 110 && decide (Rf.num (Rf.text T (j1 + 1)) ≤ 100)) = false from r3.symm))]
      refine ⟨fun e => ?_, fun e => ?_⟩
      · have := q.1 e
        rw [Rf.given, if_pos rfl] at this
        exact this
      · exact absurd (q.2 e).1 (by decide)
    · obtain rfl : bd3 = false := hb3.symm
      simp only [if_true] at s3 x3e
      subst s3
      rw [if_pos (show (Rf.kind T (j1 + 1) == 110 && decide (Rf.num (Rf.text T (j1 + 1)) ≤ 100)) = true from r3.symm), ← x3e]
      refine ⟨fun e => ?_, fun e => ?_⟩
      · have := q.1 e
        rw [Rf.given, if_neg (by decide)] at this
        rw [show Rf.blk T c (j1 + 2) (E.map (·.1)) = .bad j5 from this]
        rfl
      · obtain ⟨-, p1, p2, p3⟩ := q.2 e
        refine ⟨by omega, ?_, p3⟩
        rw [show Rf.blk T c (j1 + 2) (E.map (·.1)) = _ from p1, ← hk, p2]
        rfl
  clear q5 r3 s3 x3e hbd3
  obtain ⟨oD, cD, eD⟩ := own_shape S5.out.od
  subst eD
  have hbk := S5.out.blk
  have d0 : W5.cell? ⟨B, 0, none⟩ = some (.int .i64 3) := by simp [World.cell?, hbk]; try rfl
  have d1 : W5.cell? ⟨B, 1, none⟩ = some (.int .i64 (x3 : Int)) := by simp [World.cell?, hbk]; try rfl
  have d2 : W5.cell? ⟨B, 2, none⟩ = some (.int .i64 0) := by simp [World.cell?, hbk]; try rfl
  have d3 : W5.cell? ⟨B, 3, none⟩ = some (.string ⟨#[]⟩) := by simp [World.cell?, hbk]; try rfl
  have d4 : W5.cell? ⟨B, 4, none⟩ = some (.slice none 0 0) := by simp [World.cell?, hbk]; try rfl
  have d5 : W5.cell? ⟨B, 5, none⟩ = some (.slice none 0 0) := by simp [World.cell?, hbk]; try rfl
  have d6 : W5.cell? ⟨B, 6, none⟩ = some (.slice oD ks5.length cD) := by simp [World.cell?, hbk]; try rfl
  clear hbk
  have kP := mkHid (S5.out.put (by have := HE.out; first | omega | (simp; omega)))
  clear S5
  go_wp2_with (go_at_call 11; fail)
  refine kP.out.mono ?_
  rintro e w9 ⟨rfl, v9, h9, e9, n9, f9, g9⟩
  clear d0 d1 d2 d3 d4 d5 d6 kP
  go_wp2
  go_ret
  exact ⟨_, _, j5, bd5, mn5, v9, rfl, RdP.mk2 R HR.out h9 e9 n9 f9 g9 hlt5 (by omega) (by simp; omega) (fun e => ⟨by have := hc05.out e; simp; omega, by have := (G1.out.2 e).1; omega⟩) G1.out.1 (fun e => ⟨by rw [(G1.out.2 e).2.1]; simp, by simp [Rf.last]; try omega, by rw [(G1.out.2 e).2.2, big_app]; simp [big, Rf.zn]⟩)⟩
end Go.Proofs.YtlphojaeaogehaaGreatDoor
