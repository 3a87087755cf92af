
/- The program's words of a script, plain: what kinds they stand for; readings where no token stands. -/

/- The program's reader of a script: blocks. -/

/- The program's reader of a script: a list of tests. -/

/- The program's reader of a script: true, false, not. (By tools/gen/rptest.py.) -/
import Derived.Test.YtlphojaeaogehaaGreatDoorRpFrame2
import Derived.Test.YtlphojaeaogehaaGreatDoorRfCmd
import Derived.Deep.LoopGhost
namespace Go.Proofs.YtlphojaeaogehaaGreatDoor
namespace Rf
set_option maxRecDepth 20000 in
theorem look_none (x : List UInt8) : ∀ (f i : Nat), (∀ j, i ≤ j → j < i + f → (x == fwT j) = false) → look x f i = 0
  | 0, _, _ => rfl
  | f + 1, i, h => by
    rw [look, h i (Nat.le_refl _) (by omega)]
    exact look_none x f (i + 1) (fun j h1 h2 => h j (by omega) (by omega))
set_option maxRecDepth 20000 in
theorem lk_cases (x : List UInt8) : (∃ i, i < 22 ∧ x = fwT i) ∨ ∀ i, i < 22 → (x == fwT i) = false := by
  by_cases h : ∃ i, i < 22 ∧ x = fwT i
  · exact .inl h
  · refine .inr fun i hi => beq_eq_false_iff_ne.2 fun e => h ⟨i, hi, e⟩
set_option maxRecDepth 20000 in
theorem no_words (x : List UInt8) (h : ∀ i, i < 22 → (x == fwT i) = false) : lk x = 0 ∧ tstK x = 0 ∧ cmdK x = 0 ∧ (x == wIf) = false ∧ (x == wRepeat) = false ∧ (x == wSet) = false := by
  have h0 : (x == [105, 102]) = false := h 0 (by decide)
  have h1 : (x == [114, 101, 112, 101, 97, 116]) = false := h 1 (by decide)
  have h2 : (x == [107, 101, 101, 112]) = false := h 2 (by decide)
  have h3 : (x == [100, 105, 115, 99, 97, 114, 100]) = false := h 3 (by decide)
  have h4 : (x == [115, 116, 111, 112]) = false := h 4 (by decide)
  have h5 : (x == [102, 105, 108, 101, 105, 110, 116, 111]) = false := h 5 (by decide)
  have h6 : (x == [114, 101, 100, 105, 114, 101, 99, 116]) = false := h 6 (by decide)
  have h7 : (x == [114, 101, 106, 101, 99, 116]) = false := h 7 (by decide)
  have h8 : (x == [97, 100, 100, 102, 108, 97, 103]) = false := h 8 (by decide)
  have h9 : (x == [115, 101, 116]) = false := h 9 (by decide)
  have t0 : (x == [116, 114, 117, 101]) = false := h 10 (by decide)
  have t1 : (x == [102, 97, 108, 115, 101]) = false := h 11 (by decide)
  have t2 : (x == [110, 111, 116]) = false := h 12 (by decide)
  have t3 : (x == [97, 108, 108, 111, 102]) = false := h 13 (by decide)
  have t4 : (x == [97, 110, 121, 111, 102]) = false := h 14 (by decide)
  have t5 : (x == [104, 101, 97, 100, 101, 114]) = false := h 15 (by decide)
  have t6 : (x == [97, 100, 100, 114, 101, 115, 115]) = false := h 16 (by decide)
  have t7 : (x == [101, 110, 118, 101, 108, 111, 112, 101]) = false := h 17 (by decide)
  have t8 : (x == [101, 120, 105, 115, 116, 115]) = false := h 18 (by decide)
  have t9 : (x == [115, 105, 122, 101]) = false := h 19 (by decide)
  have ta : (x == [115, 116, 114, 105, 110, 103]) = false := h 21 (by decide)
  refine ⟨look_none x 22 0 (fun j _ h2 => h j (by omega)), ?_, ?_, h0, h1, h9⟩
  · unfold tstK
    rw [t0, t1, t2, t3, t4, t5, t6, t7, t8, t9, ta]
    rfl
  · unfold cmdK
    rw [h2, h3, h4, h5, h6, h7, h8]
    rfl
set_option maxRecDepth 20000 in
/-- A word of a test. -/
theorem lk_tst (x : List UInt8) : (Fn.isTest (lk x) = true ∧ tstK x = lk x ∧ cls x = 119) ∨ (Fn.isTest (lk x) = false ∧ tstK x = 0) := by
  rcases lk_cases x with ⟨i, hi, rfl⟩ | h
  · rcases (show i = 0 ∨ i = 1 ∨ i = 2 ∨ i = 3 ∨ i = 4 ∨ i = 5 ∨ i = 6 ∨ i = 7 ∨ i = 8 ∨ i = 9 ∨ i = 10 ∨ i = 11 ∨ i = 12 ∨ i = 13 ∨ i = 14 ∨ i = 15 ∨ i = 16 ∨ i = 17 ∨ i = 18 ∨ i = 19 ∨ i = 20 ∨ i = 21 by omega) with rfl | rfl | rfl | rfl | rfl | rfl | rfl | rfl | rfl | rfl | rfl | rfl | rfl | rfl | rfl | rfl | rfl | rfl | rfl | rfl | rfl | rfl <;> first | exact .inl ⟨by decide, by decide, by decide⟩ | exact .inr ⟨by decide, by decide⟩
  · obtain ⟨h1, h2, -⟩ := no_words x h
    rw [h1]
    exact .inr ⟨by decide, h2⟩
set_option maxRecDepth 20000 in
/-- A word of a command. -/
theorem lk_cmd (x : List UInt8) : (Fn.isCmd (lk x) = true ∧ cls x = 119 ∧ ((x = wIf ∧ lk x = 2) ∨ (x = wRepeat ∧ lk x = 3) ∨ (x = wSet ∧ lk x = 11) ∨ ((x == wIf) = false ∧ (x == wRepeat) = false ∧ (x == wSet) = false ∧ cmdK x = lk x ∧ (lk x = 4 ∨ lk x = 5 ∨ lk x = 6 ∨ lk x = 7 ∨ lk x = 8 ∨ lk x = 9 ∨ lk x = 10)))) ∨ (Fn.isCmd (lk x) = false ∧ (x == wIf) = false ∧ (x == wRepeat) = false ∧ (x == wSet) = false ∧ cmdK x = 0) := by
  rcases lk_cases x with ⟨i, hi, rfl⟩ | h
  · rcases (show i = 0 ∨ i = 1 ∨ i = 2 ∨ i = 3 ∨ i = 4 ∨ i = 5 ∨ i = 6 ∨ i = 7 ∨ i = 8 ∨ i = 9 ∨ i = 10 ∨ i = 11 ∨ i = 12 ∨ i = 13 ∨ i = 14 ∨ i = 15 ∨ i = 16 ∨ i = 17 ∨ i = 18 ∨ i = 19 ∨ i = 20 ∨ i = 21 by omega) with rfl | rfl | rfl | rfl | rfl | rfl | rfl | rfl | rfl | rfl | rfl | rfl | rfl | rfl | rfl | rfl | rfl | rfl | rfl | rfl | rfl | rfl <;> first | exact .inl ⟨by decide, by decide, by decide⟩ | exact .inr ⟨by decide, by decide, by decide, by decide, by decide⟩
  · obtain ⟨h1, -, h2, h3, h4, h5⟩ := no_words x h
    rw [h1]
    exact .inr ⟨by decide, h3, h4, h5, h2⟩
set_option maxRecDepth 20000 in
theorem Cur.word {l : List UInt8} {T : List Tk} {n kd : Nat} {x : List UInt8} {a : Nat} (h : Cur l T n kd x a) : ((kd == 1) = true ∧ cls x = 119 → kind T n = 119 ∧ text T n = x) ∧ (kind T n = 119 → kd = 1 ∧ text T n = x) := by
  refine ⟨fun ⟨h1, h2⟩ => ?_, fun hk => ?_⟩
  · obtain rfl : kd = 1 := by simpa using h1
    rcases h.kinds with ⟨e, -⟩ | ⟨-, k1, k2⟩ | ⟨e, -⟩ | ⟨e, -⟩
    · cases e
    · exact ⟨k1.trans h2, k2 (by rw [h2]; decide)⟩
    · cases e
    · cases e
  · rcases h.kinds with ⟨-, k1, -⟩ | ⟨e, k1, k2⟩ | ⟨-, k1, -⟩ | ⟨-, k1, -⟩
    · rw [k1] at hk; cases hk
    · exact ⟨e, k2 (by rw [← k1, hk]; decide)⟩
    · rw [k1] at hk; cases hk
    · rw [k1] at hk; cases hk
set_option maxRecDepth 20000 in
/-- A test's word is looked at. -/
theorem Cur.tst {l : List UInt8} {T : List Tk} {n kd : Nat} {x : List UInt8} {a : Nat} (h : Cur l T n kd x a) : ((kd == 1 && Fn.isTest (lk x)) = true → kind T n = 119 ∧ text T n = x ∧ tstK x = lk x ∧ tstK x ≠ 0) ∧ ((kd == 1 && Fn.isTest (lk x)) = false → kind T n ≠ 119 ∨ tstK (text T n) = 0) := by
  refine ⟨fun hy => ?_, fun hn => ?_⟩
  · rw [Bool.and_eq_true] at hy
    rcases lk_tst x with ⟨h1, h2, h3⟩ | ⟨h1, -⟩
    · obtain ⟨k1, k2⟩ := h.word.1 ⟨hy.1, h3⟩
      refine ⟨k1, k2, h2, fun e => ?_⟩
      rw [← h2, e] at h1
      exact absurd h1 (by decide)
    · rw [h1] at hy; exact absurd hy.2 (by decide)
  · by_cases hk : kind T n = 119
    · obtain ⟨rfl, e⟩ := h.word.2 hk
      rcases lk_tst x with ⟨h1, -⟩ | ⟨-, h2⟩
      · rw [h1] at hn; exact absurd hn (by decide)
      · exact .inr (by rw [e]; exact h2)
    · exact .inl hk
set_option maxRecDepth 20000 in
theorem Cur.cmd {l : List UInt8} {T : List Tk} {n kd : Nat} {x : List UInt8} {a : Nat} (h : Cur l T n kd x a) : ((kd == 1 && Fn.isCmd (lk x)) = true → kind T n = 119 ∧ text T n = x ∧ ((x = wIf ∧ lk x = 2) ∨ (x = wRepeat ∧ lk x = 3) ∨ (x = wSet ∧ lk x = 11) ∨ ((x == wIf) = false ∧ (x == wRepeat) = false ∧ (x == wSet) = false ∧ cmdK x = lk x ∧ (lk x = 4 ∨ lk x = 5 ∨ lk x = 6 ∨ lk x = 7 ∨ lk x = 8 ∨ lk x = 9 ∨ lk x = 10)))) ∧ ((kd == 1 && Fn.isCmd (lk x)) = false → kind T n ≠ 119 ∨ (is T n 119 wIf = false ∧ is T n 119 wRepeat = false ∧ is T n 119 wSet = false ∧ cmdK (text T n) = 0)) := by
  refine ⟨fun hy => ?_, fun hn => ?_⟩
  · rw [Bool.and_eq_true] at hy
    rcases lk_cmd x with ⟨-, h2, h3⟩ | ⟨h1, -⟩
    · obtain ⟨k1, k2⟩ := h.word.1 ⟨hy.1, h2⟩
      exact ⟨k1, k2, h3⟩
    · rw [h1] at hy; exact absurd hy.2 (by decide)
  · by_cases hk : kind T n = 119
    · obtain ⟨rfl, e⟩ := h.word.2 hk
      rcases lk_cmd x with ⟨h1, -⟩ | ⟨-, h2, h3, h4, h5⟩
      · rw [h1] at hn; exact absurd hn (by decide)
      · unfold is
        rw [hk, e]
        exact .inr ⟨by simpa using h2, by simpa using h3, by simpa using h4, h5⟩
    · exact .inl hk
/-- A reading that fails where no token stands. -/
def Kx (T : List Tk) (P : Nat → List Nd → Out) : Prop := ∀ j N, kind T j = 120 → P j N = .bad j
section
variable {T : List Tk} {t c : Nat → List Nd → Out}
set_option maxRecDepth 20000 in
theorem cmds_x (hC : Kx T c) {j : Nat} (h : kind T j = 120) (f : Nat) (N : List Nd) (ks : List Int) : cmds T c f j N ks = .bad j := by
  cases f with
  | zero => rfl
  | succ f => rw [cmds, is_x h 112 (by decide), hC j N h]; rfl
set_option maxRecDepth 20000 in
theorem all_x (hC : Kx T c) {j : Nat} (h : kind T j = 120) (f : Nat) (N : List Nd) (ks : List Int) : all T c f j N ks = .bad j := by
  cases f with
  | zero => rfl
  | succ f => rw [all, h, hC j N h]; rfl
set_option maxRecDepth 20000 in
theorem tsts_x {j : Nat} (h : kind T j = 120) (f : Nat) (N : List Nd) (ks : List Int) : tsts T t f j N ks = .bad j := by
  cases f with
  | zero => rfl
  | succ f => rw [tsts, is_x h 112 (by decide), is_x h 112 (by decide)]; rfl
set_option maxRecDepth 20000 in
theorem blk_x (c : Nat → List Nd → Out) : Kx T (blk T c) := fun j N h => by unfold blk; rw [is_x h 112 (by decide)]; rfl
set_option maxRecDepth 20000 in
theorem tst_x (t : Nat → List Nd → Out) : Kx T (tst T t) := fun j N h => tst_no T t j N (.inl (by rw [h]; decide))
set_option maxRecDepth 20000 in
theorem cmd_x (t c : Nat → List Nd → Out) : Kx T (cmd T t c) := fun j N h => cmd_no T t c j N (.inl (by rw [h]; decide))
set_option maxRecDepth 20000 in
theorem lv_x (T : List Tk) : ∀ f, Kx T (lv T f).1 ∧ Kx T (lv T f).2
  | 0 => ⟨fun _ _ _ => rfl, fun _ _ _ => rfl⟩
  | _ + 1 => ⟨tst_x _, cmd_x _ _⟩
set_option maxRecDepth 20000 in
theorem cho_x (ht : Kx T t) : ∀ f, Kx T (cho T t c f)
  | 0 => fun _ _ _ => rfl
  | f + 1 => fun j N h => by rw [cho, ht j N h]
set_option maxRecDepth 20000 in
theorem txts_x {j : Nat} (h : kind T j = 120) : txts T j = .bad j := by
  unfold txts
  rw [is_x h 112 (by decide), h]
  rfl
set_option maxRecDepth 20000 in
theorem match_x {j : Nat} (h : kind T j = 120) : matchOf T j = none := by
  unfold matchOf
  rw [is_x h 58 (by decide), is_x h 58 (by decide), is_x h 58 (by decide)]
  rfl
end
end Rf
end Go.Proofs.YtlphojaeaogehaaGreatDoor
namespace Go.Proofs.YtlphojaeaogehaaGreatDoor
open Go.RowKit Go.Lib Go.Maps
set_option maxRecDepth 20000 in
/-- An append of one number; where its row lies. -/
theorem wp_appNat {w : World} {ops : Array Oper} {rest : List Oper} {o : Oper} {a : Act} {Q : Exit → Act → World → Prop} (hgd : o.guard = none) (s x : Operand)
    (ho : o.op = .call { callee := .builtin .append, args := #[s, x], argTypes := #[35, 35] })
    (B : Nat) (v : Value) (C : List Int) (hs : a.eval s = v) (hown : OwnN B v C w) (u : Int)
    (c : Nat) (hx : a.eval x = .slice (some ⟨w.heap.size, 0, none⟩) 1 c) (hlen : C.length ≤ 1000000) (hB : B ≤ w.heap.size)
    (h : ∀ v' w', OwnN B v' (C ++ [u]) w' → (w.alloc (.cells #[.int .i64 u] 2)).grownBy w' v.ownBlock → Nw (w.alloc (.cells #[.int .i64 u] 2)) v v' → wpList Tryz.prog ops Q rest (a.put o.dst v') w') : wpList Tryz.prog ops Q (o :: rest) a (w.alloc (.cells #[.int .i64 u] 2)) := by
  obtain ⟨i0, hi0, hz0, hz1, hz2⟩ := info_parts Tryz.info2
  unfold OwnN at hown
  refine wpList_append_own_at _ hgd s x 35 ho B 2 i0 (.int .i64 0) 1 8 Tryz.underlying35 hi0 hz0 hz1 hz2 rfl (by decide) v C.length (numCells C) hs (World.ownsRow.alloc hown _) ⟨w.heap.size, 0, none⟩ 1 c [.int .i64 u] hx
    rfl ?_ ?_ (by unfold maxLen; omega) (by omega) (by simp; omega) ?_
  · intro j y hj
    rw [add_off]
    match j, hj with
    | 0, hj => simp at hj; subst hj; simp
  · intro y hy
    simp at hy
    subst hy
    rfl
  · intro v' w' h1 h2 _ h4
    refine h v' w' ?_ h2 (h4.imp id fun e => ⟨_, Nat.le_refl _, e⟩)
    unfold OwnN numCells
    rw [List.map_append, List.length_append]
    exact h1
set_option maxRecDepth 20000 in
set_option maxHeartbeats 4000000 in
theorem prBlock (g : Nat) (s : ByteArray) (l : List UInt8) (T : List Rf.Tk) (f : Nat) (C : Nat → List Nd → Rf.Out) (hl : s.data.toList = l) (hs : s.size ≤ 100000) (hT : T.length ≤ 30000) (hX : Rf.Kx T C) (hC : PrC 35 g s l T f C) :
    PrC 58 g s l T f (Rf.blk T C) := by
  intro n kd x a v E w h hG hf hE
  have kS := mkHid (prSign h hl hs [123] (by decide) (by decide))
  rw [show Rf.cls [123] = 112 from rfl] at kS
  have F0 := mkHid (Pf.start h hG)
  have HC := mkHid hC
  have HX := mkHid hX
  obtain ⟨R, hR⟩ : ∃ R, Rf.blk T C n (E.map (·.1)) = R := ⟨_, rfl⟩
  rw [hR]
  replace hR := mkHid hR
  clear h hC hX hG
  go_enter Tryz.func58, Tryz.ntmps58
  go_wp2_with (go_at_call 62; fail)
  refine kS.out.mono ?_
  rintro e w1 ⟨e1, ⟨h0, rfl⟩ | ⟨h0, ⟨kd', x', a', rfl, h1⟩ | hx⟩⟩
  · refine ⟨rfl, e1.weak, PrO.bad ?_⟩
    rw [← hR.out, Rf.blk, if_neg (Bool.eq_false_iff.1 h0)]
  · have hR1 : Rf.blkEnd (Rf.cmds T C T.length (n + 1) (E.map (·.1)) []) = R := by rw [← Rf.blk_yes T C n _ h0]; exact hR.out
    have hlt := h1.cur.lt
    have S0 : Hid (∃ (m F : Nat) (A : List NdE) (ks : List Int) (v' : Value), T.length - m ≤ T.length ∧ T.length ≤ m + F ∧ m < T.length ∧ n < m ∧ ks.length ≤ m ∧ A.length + 3 * n + 3 ≤ 3 * m ∧ Rf.blkEnd (Rf.cmds T C F m ((E ++ A).map (·.1)) ks) = R ∧ Pf g s l T v E w [] [] ks (.slice none 0 0) (.slice none 0 0) (.slice none 0 0) m v' A w1) :=
      ⟨n + 1, T.length, [], [], v, by omega, by omega, hlt, by omega, by simp, by simp; omega, by rw [List.append_nil]; exact hR1, F0.out.small (by rw [List.append_nil]; exact h1) e1⟩
    clear h0 h1 e1 kS hR1 hlt hR F0
    go_wp2
    go_loopg [3] (T.length) (fun q ov wr => ∃ (m F : Nat) (A : List NdE) (ks : List Int) (v' : Value), T.length - m ≤ q ∧ T.length ≤ m + F ∧ m < T.length ∧ n < m ∧ ks.length ≤ m ∧ A.length + 3 * n + 3 ≤ 3 * m ∧ Rf.blkEnd (Rf.cmds T C F m ((E ++ A).map (·.1)) ks) = R ∧ Pf g s l T v E w [] [] ks (.slice none 0 0) (.slice none 0 0) ov m v' A wr)
    case atStart => exact S0.out
    case round =>
      clear S0
      obtain ⟨m, F, A, ks, v', hq, hmF, hmT, hnm, hkm, hAm, hRm, hP⟩ := hrel
      obtain ⟨o, cap, hsh⟩ := own_shape hP.od
      subst hsh
      obtain ⟨F, rfl⟩ : ∃ F', F = F' + 1 := ⟨F - 1, by omega⟩
      obtain ⟨kd1, x1, a1, hp⟩ := hP.ps
      have kT := mkHid (prTakes hp hl hs [125] (by decide) (by decide))
      rw [show Rf.cls [125] = 112 from rfl] at kT
      have HP := mkHid hP
      have HR := mkHid hRm
      clear hRm hP hp
      go_wp2_with (go_at_call 81; fail)
      refine kT.out.mono ?_
      rintro e w2 ⟨e2, ⟨h0, rfl, h2⟩ | ⟨h0, ⟨kd2, x2, a2, rfl, h2⟩ | hx⟩⟩
      · replace HP := mkHid (HP.out.small h2 e2)
        have kC := mkHid (HC.out m _ _ _ v' (E ++ A) w2 h2 HP.out.gl (by omega) (by rw [List.length_append]; omega))
        obtain ⟨Z, hZ⟩ : ∃ Z, C m ((E ++ A).map (·.1)) = Z := ⟨_, rfl⟩
        have hR2 := HR.out
        rw [Rf.cmds, if_neg (Bool.eq_false_iff.1 h0), hZ] at hR2
        rw [hZ] at kC
        replace hR2 := mkHid hR2
        clear h0 h2 e2 kT HR hZ
        go_wp2_with (go_at_call 35; fail)
        refine kC.out.mono ?_
        rintro e w3 ⟨e3, h3⟩
        clear kC
        cases Z with
        | bad j =>
          obtain rfl : e = _ := h3
          exact ⟨rfl, HP.out.ef.trans HP.out.nw e3, PrO.bad (by rw [← hR2.out]; rfl)⟩
        | ok j N =>
          rcases h3 with ⟨A1, v1, rfl, hN, hp3⟩ | hx
          · have hcn := hp3.cnt
            have hR3 : Rf.blkEnd (Rf.cmds T C F j N (ks ++ [Rf.last N])) = R := hR2.out
            obtain ⟨z, hz⟩ : ∃ z, Rf.last N = z := ⟨_, rfl⟩
            rw [hz] at hR3 ⊢
            rw [hN, List.append_assoc] at hR3
            replace hR3 := mkHid hR3
            obtain ⟨kd4, x4, a4, hp4⟩ := hp3.ps
            have hjT := hp4.cur.lt
            replace HP := mkHid (HP.out.call e3 hp3)
            clear hN hz hp3 hp4 e3 hR2
            go_wp2_with (at_builtin; go_must (refine wp_appNat rfl _ _ rfl w.heap.size (.slice o ks.length cap) ks rfl HP.out.od z 1 rfl (by omega) HP.out.ef.size ?_; intro v4 w4 ho4 hg4 hn4; refine Hid.out ?_))
            refine mkHid ?_
            have HQ := mkHid (HP.out.kid ho4 hg4 hn4)
            clear ho4 hg4 hn4 HP
            go_wp2
            go_roundg (T.length - j)
            case measure => omega
            case rel => exact ⟨j, F, A ++ A1, ks ++ [z], v1, by omega, by omega, hjT, by omega, by simp; omega, by simp; omega, hR3.out, HQ.out⟩
          · obtain ⟨m1, m2, rfl⟩ := hx
            refine ⟨rfl, HP.out.ef.trans HP.out.nw e3, PrO.ofX ⟨m1, m2, rfl⟩ ?_⟩
            rw [← hR2.out]
            show Rf.blkEnd (Rf.cmds T C F j N _) = _
            rw [Rf.cmds_x HX.out m2]
            rfl
      · have hR2 := HR.out
        rw [Rf.cmds, if_pos h0] at hR2
        replace HP := mkHid (HP.out.small h2 e2)
        have kA := mkHid (HP.out.add { Rf.zn 1 with kids := ks } rfl rfl rfl (by rw [List.length_append]; omega))
        replace hR2 := mkHid hR2.symm
        clear kT h0 h2 e2 HR
        unfold ndV Rf.zn at kA
        dsimp only at kA
        go_wp2_with (go_at_call 36; fail)
        refine kA.out.mono ?_
        rintro e w3 ⟨rfl, v2, A2, hA2, e3, n3, p3, f3, f4⟩
        obtain ⟨y, hy⟩ : ∃ y : Int, ((E ++ A).length : Int) = y := ⟨_, rfl⟩
        have hfin : Hid (Ef g v.ownBlock w w3 ∧ PrO g s l T n v E w R (.returned (.int .i64 y)) w3) := by rw [← hy]; exact ⟨e3, PrO.added hA2.out hR2.out n3 p3 f3 f4 (by omega)⟩
        rw [hy]
        clear hy
        clear hA2 e3 n3 p3 f3 f4 kA HP hR2
        go_wp2
        go_ret
        exact hfin.out
      · obtain ⟨m1, m2, rfl⟩ := hx
        have hR2 := HR.out
        rw [Rf.cmds, if_pos h0] at hR2
        exact ⟨rfl, HP.out.ef.trans HP.out.nw e2.weak, PrO.ofX2 ⟨m1, m2, rfl⟩ hR2.symm⟩
  · obtain ⟨m1, m2, rfl⟩ := hx
    refine ⟨rfl, e1.weak, PrO.ofX ⟨m1, m2, rfl⟩ ?_⟩
    rw [← hR.out, Rf.blk_yes T C n _ h0, Rf.cmds_x HX.out m2]
    rfl
end Go.Proofs.YtlphojaeaogehaaGreatDoor
namespace Go.Proofs.YtlphojaeaogehaaGreatDoor
open Go.RowKit Go.Lib Go.Maps
def Rf.lst (T : List Rf.Tk) (t : Nat → List Nd → Rf.Out) : Rf.Out → Rf.KO
  | .ok i N => Rf.tsts T t T.length i N [Rf.last N]
  | .bad j => .bad j
/-- What comes of a reading of a list of nodes. -/
def KoO (g : Nat) (s : ByteArray) (l : List UInt8) (T : List Rf.Tk) (n : Nat) (v : Value) (E : List NdE) (w : World) (R : Rf.KO) (e : Ending) (w' : World) : Prop :=
  match R with
  | .ok j N ks => (∃ A v' o c, e = .returned (.slice o ks.length c) ∧ N = (E ++ A).map (·.1) ∧ A.length + 3 * n + 2 ≤ 3 * j ∧ Pf g s l T v E w [] [] ks (.slice none 0 0) (.slice none 0 0) (.slice o ks.length c) j v' A w') ∨ Xf T j e
  | .bad j => e = faultAt (Rf.pos T j)
section
variable {g : Nat} {s : ByteArray} {l : List UInt8} {T : List Rf.Tk} {v : Value} {E : List NdE} {w w' : World} {n m : Nat} {R : Rf.KO} {e : Ending}
set_option maxRecDepth 20000 in
theorem KoO.ofX (hx : Xf T m e) (hR : R = .bad m) : KoO g s l T n v E w R e w' := by
  rw [hR]; exact hx.2.2
set_option maxRecDepth 20000 in
theorem KoO.bad (hR : R = .bad m) : KoO g s l T n v E w R (faultAt (Rf.pos T m)) w' := by
  rw [hR]; exact rfl
end
set_option maxRecDepth 20000 in
set_option maxHeartbeats 4000000 in
theorem prListN (g : Nat) (s : ByteArray) (l : List UInt8) (T : List Rf.Tk) (f : Nat) (t : Nat → List Nd → Rf.Out) (hl : s.data.toList = l) (hs : s.size ≤ 100000) (hT : T.length ≤ 30000) (hX : Rf.Kx T t) (hC : PrC 80 g s l T f t)
    (n kd : Nat) (x : List UInt8) (a : Nat) (v : Value) (E : List NdE) (w : World) (h : Ps g s l T n kd x a v E w) (hG : Gl g w) (hf : T.length ≤ n + f) (hE : E.length ≤ 3 * n + 5) :
    Calls Tryz.prog 94 #[scp g, .string ⟨#[41]⟩, .func (.func 80) #[scp g] #[]] w fun e w' => Ef g v.ownBlock w w' ∧ KoO g s l T n v E w (Rf.lst T t (t n (E.map (·.1)))) e w' := by
  have k0 := mkHid (hC n kd x a v E w h hG hf hE)
  have F0 := mkHid (Pf.start h hG)
  have HC := mkHid hC
  have HX := mkHid hX
  have hEn : ∀ (args : Array Value) (w : World), (callFunc 80 args).run Tryz.prog w = .ok (.enter 80 args) w := Go.Proofs.enters_of Tryz.func80 (by kernel_rfl) rfl
  obtain ⟨Z, hZ⟩ : ∃ Z, t n (E.map (·.1)) = Z := ⟨_, rfl⟩
  rw [hZ] at k0 ⊢
  obtain ⟨R, hR⟩ : ∃ R, Rf.lst T t Z = R := ⟨_, rfl⟩
  rw [hR]
  replace hR := mkHid hR
  clear h hC hX hG hZ
  go_enter Tryz.func94, Tryz.ntmps94
  go_wp2_with (go_at_call 80; fail)
  refine k0.out.mono ?_
  rintro e w1 ⟨e1, h1⟩
  clear k0
  cases Z with
  | bad j =>
    obtain rfl : e = _ := h1
    exact ⟨rfl, e1, KoO.bad (by rw [← hR.out]; rfl)⟩
  | ok j N =>
    rcases h1 with ⟨A1, v1, rfl, hN, hp1⟩ | hx
    · have hcn := hp1.cnt
      have hR1 : Rf.tsts T t T.length j N [Rf.last N] = R := hR.out
      obtain ⟨z, hz⟩ : ∃ z, Rf.last N = z := ⟨_, rfl⟩
      rw [hz] at hR1 ⊢
      rw [hN] at hR1
      obtain ⟨kd4, x4, a4, hp4⟩ := hp1.ps
      have hjT := hp4.cur.lt
      have F1 := F0.out.call (A := []) e1 (by rw [List.append_nil]; exact hp1)
      obtain ⟨W2, hW2⟩ : ∃ W2, w1.alloc (.cells #[.int .i64 z] 2) = W2 := ⟨_, rfl⟩
      have b2 : Below w1.heap.size w1 W2 := by rw [← hW2]; exact (Below.refl _ _).alloc (Nat.le_refl _) _
      have hO : OwnN w1.heap.size (.slice (some ⟨w1.heap.size, 0, none⟩) 1 1) [z] W2 := by rw [← hW2]; exact ⟨rfl, .inr ⟨w1.heap.size, 1, _, rfl, Nat.le_refl _, heap_alloc_at _ _, Nat.le_refl _, by unfold maxLen; omega, rfl, rfl⟩⟩
      have S0 : Hid (∃ (m F : Nat) (A : List NdE) (ks : List Int) (v' : Value), T.length - m ≤ T.length ∧ T.length ≤ m + F ∧ m < T.length ∧ n < m ∧ ks.length ≤ m ∧ A.length + 3 * n + 1 ≤ 3 * m ∧ Rf.tsts T t F m ((E ++ A).map (·.1)) ks = R ∧ Pf g s l T v E w [] [] ks (.slice none 0 0) (.slice none 0 0) (.slice (some ⟨w1.heap.size, 0, none⟩) 1 1) m v' A W2) :=
        ⟨j, T.length, A1, [z], v1, by omega, by omega, hjT, by omega, by simp; omega, by omega, hR1, F1.kids b2 hO⟩
      have HW2 := mkHid hW2
      clear hN hz hp1 hp4 e1 hR hR1 F1 b2 hO hW2 F0 hcn hjT
      go_wp2
      rw [HW2.out]
      clear HW2
      go_loopg [7] (T.length) (fun q ov wr => ∃ (m F : Nat) (A : List NdE) (ks : List Int) (v' : Value), T.length - m ≤ q ∧ T.length ≤ m + F ∧ m < T.length ∧ n < m ∧ ks.length ≤ m ∧ A.length + 3 * n + 1 ≤ 3 * m ∧ Rf.tsts T t F m ((E ++ A).map (·.1)) ks = R ∧ Pf g s l T v E w [] [] ks (.slice none 0 0) (.slice none 0 0) ov m v' A wr)
      case atStart => exact S0.out
      case round =>
        clear S0
        obtain ⟨m, F, A, ks, v', hq, hmF, hmT, hnm, hkm, hAm, hRm, hP⟩ := hrel
        obtain ⟨o, cap, hsh⟩ := own_shape hP.od
        subst hsh
        obtain ⟨F, rfl⟩ : ∃ F', F = F' + 1 := ⟨F - 1, by omega⟩
        obtain ⟨kd1, x1, a1, hp⟩ := hP.ps
        have kT := mkHid (prTakes hp hl hs [44] (by decide) (by decide))
        rw [show Rf.cls [44] = 112 from rfl] at kT
        have HP := mkHid hP
        have HR := mkHid hRm
        clear hRm hP hp
        go_wp2_with (go_at_call 81; fail)
        refine kT.out.mono ?_
        rintro e w2 ⟨e2, ⟨h0, rfl, h2⟩ | ⟨h0, ⟨kd2, x2, a2, rfl, h2⟩ | hx⟩⟩
        · have hR2 := HR.out
          rw [Rf.tsts, if_neg (Bool.eq_false_iff.1 h0)] at hR2
          have kG := mkHid (prSign h2 hl hs [41] (by decide) (by decide))
          rw [show Rf.cls [41] = 112 from rfl] at kG
          replace HP := mkHid (HP.out.small h2 e2)
          replace hR2 := mkHid hR2
          clear kT h0 h2 e2 HR
          go_wp2_with (go_at_call 62; fail)
          refine kG.out.mono ?_
          rintro e w3 ⟨e3, ⟨h0, rfl⟩ | ⟨h0, ⟨kd3, x3, a3, rfl, h3⟩ | hx⟩⟩
          · refine ⟨rfl, HP.out.ef.trans HP.out.nw e3.weak, KoO.bad ?_⟩
            rw [← hR2.out, if_neg (Bool.eq_false_iff.1 h0)]
          · have hfin : Hid (Ef g v.ownBlock w w3 ∧ KoO g s l T n v E w R (.returned (.slice o ks.length cap)) w3) := by
              have hQ := HP.out.small h3 e3
              refine ⟨hQ.ef, ?_⟩
              rw [← hR2.out, if_pos h0]
              exact .inl ⟨A, v', o, cap, rfl, rfl, by omega, hQ⟩
            clear kG h0 h3 e3 hR2 HP
            go_wp2
            go_ret
            exact hfin.out
          · obtain ⟨m1, m2, rfl⟩ := hx
            refine ⟨rfl, HP.out.ef.trans HP.out.nw e3.weak, ?_⟩
            rw [← hR2.out, if_pos h0]
            exact .inr ⟨m1, m2, rfl⟩
        · replace HP := mkHid (HP.out.small h2 e2)
          have hm2 := h2.cur.lt
          have kC := mkHid (HC.out (m + 1) _ _ _ v' (E ++ A) w2 h2 HP.out.gl (by omega) (by rw [List.length_append]; omega))
          obtain ⟨Z, hZ⟩ : ∃ Z, t (m + 1) ((E ++ A).map (·.1)) = Z := ⟨_, rfl⟩
          have hR2 := HR.out
          rw [Rf.tsts, if_pos h0, hZ] at hR2
          rw [hZ] at kC
          replace hR2 := mkHid hR2
          clear h0 h2 e2 kT HR hZ
          go_wp2_with (go_at_call 80; fail)
          refine kC.out.mono ?_
          rintro e w3 ⟨e3, h3⟩
          clear kC
          cases Z with
          | bad j =>
            obtain rfl : e = _ := h3
            exact ⟨rfl, HP.out.ef.trans HP.out.nw e3, KoO.bad (by rw [← hR2.out])⟩
          | ok j N =>
            rcases h3 with ⟨A1, v1, rfl, hN, hp3⟩ | hx
            · have hcn := hp3.cnt
              have hR3 : Rf.tsts T t F j N (ks ++ [Rf.last N]) = R := hR2.out
              obtain ⟨z, hz⟩ : ∃ z, Rf.last N = z := ⟨_, rfl⟩
              rw [hz] at hR3 ⊢
              rw [hN, List.append_assoc] at hR3
              replace hR3 := mkHid hR3
              obtain ⟨kd4, x4, a4, hp4⟩ := hp3.ps
              have hjT := hp4.cur.lt
              replace HP := mkHid (HP.out.call e3 hp3)
              clear hN hz hp3 hp4 e3 hR2
              go_wp2_with (at_builtin; go_must (refine wp_appNat rfl _ _ rfl w.heap.size (.slice o ks.length cap) ks rfl HP.out.od z 1 rfl (by omega) HP.out.ef.size ?_; intro v4 w4 ho4 hg4 hn4; refine Hid.out ?_))
              refine mkHid ?_
              have HQ := mkHid (HP.out.kid ho4 hg4 hn4)
              clear ho4 hg4 hn4 HP
              go_wp2
              go_roundg (T.length - j)
              case measure => omega
              case rel => exact ⟨j, F, A ++ A1, ks ++ [z], v1, by omega, by omega, hjT, by omega, by simp; omega, by simp; omega, hR3.out, HQ.out⟩
            · obtain ⟨m1, m2, rfl⟩ := hx
              refine ⟨rfl, HP.out.ef.trans HP.out.nw e3, KoO.ofX ⟨m1, m2, rfl⟩ ?_⟩
              rw [← hR2.out]
              show Rf.tsts T t F j N _ = _
              rw [Rf.tsts_x m2]
        · obtain ⟨m1, m2, rfl⟩ := hx
          refine ⟨rfl, HP.out.ef.trans HP.out.nw e2.weak, KoO.ofX ⟨m1, m2, rfl⟩ ?_⟩
          rw [← HR.out, Rf.tsts, if_pos h0, HX.out _ _ m2]
    · obtain ⟨m1, m2, rfl⟩ := hx
      refine ⟨rfl, e1, KoO.ofX ⟨m1, m2, rfl⟩ ?_⟩
      rw [← hR.out]
      show Rf.tsts T t _ j N _ = _
      rw [Rf.tsts_x m2]
end Go.Proofs.YtlphojaeaogehaaGreatDoor
namespace Go.Proofs.YtlphojaeaogehaaGreatDoor
open Go.RowKit Go.Lib Go.Maps
set_option maxRecDepth 20000 in
set_option maxHeartbeats 8000000 in
theorem prTest20 (g : Nat) (s : ByteArray) (l : List UInt8) (T : List Rf.Tk) (f : Nat) (t : Nat → List Nd → Rf.Out) (hl : s.data.toList = l) (hs : s.size ≤ 100000) (hT : T.length ≤ 30000) (hXt : Rf.Kx T t) (hTst : PrC 80 g s l T f t) (hGT : GoodT T) (n kd : Nat) (x : List UInt8) (a : Nat) (v : Value) (E : List NdE) (w : World) (h : Ps g s l T n kd x a v E w) (hG : Gl g w) (hf : T.length ≤ n + (f + 1)) (hE : E.length ≤ 3 * n + 5) (hw : (kd == 1 && Fn.isTest (Rf.lk x)) = true) (hk : Rf.lk x = 20) :
    Calls Tryz.prog 80 #[scp g] w fun e w' => Ef g v.ownBlock w w' ∧ PrO g s l T n v E w (Rf.tst T t n (E.map (·.1))) e w' := by
  obtain ⟨q1, q2, q3, -⟩ := h.cur.tst.1 hw
  obtain ⟨R, hR⟩ : ∃ R, Rf.tst T t n (E.map (·.1)) = R := ⟨_, rfl⟩
  rw [hR]
  rw [Rf.tst_20 T t n (E.map (·.1)) q1 (by rw [q2, q3, hk])] at hR
  have kK := mkHid (prKind kindTst h hl hs hG.ft (fun _ => by rw [q1]; exact ⟨by decide, by decide⟩))
  rw [hw, hk] at kK
  have F0 := mkHid (Pf.start h hG)
  have hgl := h.sc.lt
  have HR := mkHid hR
  have HT := mkHid hTst
  have HX := mkHid hXt
  have HG := mkHid hGT
  have _hf := hf
  clear h hG q1 q2 q3 hw hk hR hTst hXt hGT
  go_enter Tryz.func80, Tryz.ntmps80
  go_wp2_with (go_at_call 54; fail)
  refine kK.out.mono ?_
  rintro e w1 ⟨e1, ⟨h0, -⟩ | ⟨-, ⟨kd1, x1, a1, rfl, h1⟩ | hx⟩⟩
  · cases h0
  · obtain ⟨B, hB⟩ : ∃ B, w1.heap.size = B := ⟨_, rfl⟩
    obtain ⟨W0, hW0⟩ : ∃ W0, w1.alloc (.cells #[.int .i64 20, .int .i64 0, .int .i64 0, .string ⟨#[]⟩, .slice none 0 0, .slice none 0 0, .slice none 0 0] 37) = W0 := ⟨_, rfl⟩
    have b0 : Below w1.heap.size w1 W0 := by rw [← hW0]; exact (Below.refl _ _).alloc (Nat.le_refl _) _
    have F2 := mkHid ((F0.out.small (by rw [List.append_nil]; exact h1) e1).below b0)
    have P0 : Hid (Pb w B #[.int .i64 20, .int .i64 0, .int .i64 0, .string ⟨#[]⟩, .slice none 0 0, .slice none 0 0, .slice none 0 0] v W0) := by show Pb w B _ v W0; rw [← hW0, ← hB]; exact Pb.new h1 e1.size
    obtain ⟨kd0, x0, a0, p0⟩ := F2.out.ps
    have hn1 := p0.cur.lt
    have HW0 := mkHid hW0
    have HB := mkHid hB
    have HP0 := mkHid p0
    clear h1 e1 b0 hB hW0 kK F0 p0
    have kA := mkHid (F2.out.add (Rf.zn 20) rfl rfl rfl (by rw [List.length_append]; first | omega | (simp; omega)))
    have hRR : Hid (R = .ok (n + 1) ((E ++ ([] : List NdE)).map (·.1) ++ [(Rf.zn 20)])) := by show R = _; rw [← HR.out, List.append_nil]
    clear HR F2
    unfold ndV Rf.zn at kA
    dsimp only at kA
    go_wp2_with (go_at_call 36; fail)
    rw [HW0.out, HB.out]
    refine kA.out.mono ?_
    rintro e w9 ⟨rfl, v9, A9, hA9, e9, n9, p9, f9, g9⟩
    obtain ⟨y, hy⟩ : ∃ y : Int, ((E ++ ([] : List NdE)).length : Int) = y := ⟨_, rfl⟩
    have hfin : Hid (Ef g v.ownBlock w w9 ∧ PrO g s l T n v E w R (.returned (.int .i64 y)) w9) := by rw [← hy]; exact ⟨e9, PrO.added hA9.out hRR.out n9 p9 f9 g9 (by first | omega | (simp; omega))⟩
    rw [hy]
    clear hA9 e9 n9 p9 f9 g9 kA hRR hy
    skip
    go_wp2
    go_ret
    exact hfin.out
  · obtain ⟨m1, m2, rfl⟩ := hx
    refine ⟨rfl, e1.weak, ?_⟩
    exact PrO.ofX2 ⟨m1, m2, rfl⟩ HR.out.symm
set_option maxRecDepth 20000 in
set_option maxHeartbeats 8000000 in
theorem prTest21 (g : Nat) (s : ByteArray) (l : List UInt8) (T : List Rf.Tk) (f : Nat) (t : Nat → List Nd → Rf.Out) (hl : s.data.toList = l) (hs : s.size ≤ 100000) (hT : T.length ≤ 30000) (hXt : Rf.Kx T t) (hTst : PrC 80 g s l T f t) (hGT : GoodT T) (n kd : Nat) (x : List UInt8) (a : Nat) (v : Value) (E : List NdE) (w : World) (h : Ps g s l T n kd x a v E w) (hG : Gl g w) (hf : T.length ≤ n + (f + 1)) (hE : E.length ≤ 3 * n + 5) (hw : (kd == 1 && Fn.isTest (Rf.lk x)) = true) (hk : Rf.lk x = 21) :
    Calls Tryz.prog 80 #[scp g] w fun e w' => Ef g v.ownBlock w w' ∧ PrO g s l T n v E w (Rf.tst T t n (E.map (·.1))) e w' := by
  obtain ⟨q1, q2, q3, -⟩ := h.cur.tst.1 hw
  obtain ⟨R, hR⟩ : ∃ R, Rf.tst T t n (E.map (·.1)) = R := ⟨_, rfl⟩
  rw [hR]
  rw [Rf.tst_21 T t n (E.map (·.1)) q1 (by rw [q2, q3, hk])] at hR
  have kK := mkHid (prKind kindTst h hl hs hG.ft (fun _ => by rw [q1]; exact ⟨by decide, by decide⟩))
  rw [hw, hk] at kK
  have F0 := mkHid (Pf.start h hG)
  have hgl := h.sc.lt
  have HR := mkHid hR
  have HT := mkHid hTst
  have HX := mkHid hXt
  have HG := mkHid hGT
  have _hf := hf
  clear h hG q1 q2 q3 hw hk hR hTst hXt hGT
  go_enter Tryz.func80, Tryz.ntmps80
  go_wp2_with (go_at_call 54; fail)
  refine kK.out.mono ?_
  rintro e w1 ⟨e1, ⟨h0, -⟩ | ⟨-, ⟨kd1, x1, a1, rfl, h1⟩ | hx⟩⟩
  · cases h0
  · obtain ⟨B, hB⟩ : ∃ B, w1.heap.size = B := ⟨_, rfl⟩
    obtain ⟨W0, hW0⟩ : ∃ W0, w1.alloc (.cells #[.int .i64 21, .int .i64 0, .int .i64 0, .string ⟨#[]⟩, .slice none 0 0, .slice none 0 0, .slice none 0 0] 37) = W0 := ⟨_, rfl⟩
    have b0 : Below w1.heap.size w1 W0 := by rw [← hW0]; exact (Below.refl _ _).alloc (Nat.le_refl _) _
    have F2 := mkHid ((F0.out.small (by rw [List.append_nil]; exact h1) e1).below b0)
    have P0 : Hid (Pb w B #[.int .i64 21, .int .i64 0, .int .i64 0, .string ⟨#[]⟩, .slice none 0 0, .slice none 0 0, .slice none 0 0] v W0) := by show Pb w B _ v W0; rw [← hW0, ← hB]; exact Pb.new h1 e1.size
    obtain ⟨kd0, x0, a0, p0⟩ := F2.out.ps
    have hn1 := p0.cur.lt
    have HW0 := mkHid hW0
    have HB := mkHid hB
    have HP0 := mkHid p0
    clear h1 e1 b0 hB hW0 kK F0 p0
    have kA := mkHid (F2.out.add (Rf.zn 21) rfl rfl rfl (by rw [List.length_append]; first | omega | (simp; omega)))
    have hRR : Hid (R = .ok (n + 1) ((E ++ ([] : List NdE)).map (·.1) ++ [(Rf.zn 21)])) := by show R = _; rw [← HR.out, List.append_nil]
    clear HR F2
    unfold ndV Rf.zn at kA
    dsimp only at kA
    go_wp2_with (go_at_call 36; fail)
    rw [HW0.out, HB.out]
    refine kA.out.mono ?_
    rintro e w9 ⟨rfl, v9, A9, hA9, e9, n9, p9, f9, g9⟩
    obtain ⟨y, hy⟩ : ∃ y : Int, ((E ++ ([] : List NdE)).length : Int) = y := ⟨_, rfl⟩
    have hfin : Hid (Ef g v.ownBlock w w9 ∧ PrO g s l T n v E w R (.returned (.int .i64 y)) w9) := by rw [← hy]; exact ⟨e9, PrO.added hA9.out hRR.out n9 p9 f9 g9 (by first | omega | (simp; omega))⟩
    rw [hy]
    clear hA9 e9 n9 p9 f9 g9 kA hRR hy
    skip
    go_wp2
    go_ret
    exact hfin.out
  · obtain ⟨m1, m2, rfl⟩ := hx
    refine ⟨rfl, e1.weak, ?_⟩
    exact PrO.ofX2 ⟨m1, m2, rfl⟩ HR.out.symm
set_option maxRecDepth 20000 in
set_option maxHeartbeats 8000000 in
theorem prTest22 (g : Nat) (s : ByteArray) (l : List UInt8) (T : List Rf.Tk) (f : Nat) (t : Nat → List Nd → Rf.Out) (hl : s.data.toList = l) (hs : s.size ≤ 100000) (hT : T.length ≤ 30000) (hXt : Rf.Kx T t) (hTst : PrC 80 g s l T f t) (hGT : GoodT T) (n kd : Nat) (x : List UInt8) (a : Nat) (v : Value) (E : List NdE) (w : World) (h : Ps g s l T n kd x a v E w) (hG : Gl g w) (hf : T.length ≤ n + (f + 1)) (hE : E.length ≤ 3 * n + 5) (hw : (kd == 1 && Fn.isTest (Rf.lk x)) = true) (hk : Rf.lk x = 22) :
    Calls Tryz.prog 80 #[scp g] w fun e w' => Ef g v.ownBlock w w' ∧ PrO g s l T n v E w (Rf.tst T t n (E.map (·.1))) e w' := by
  obtain ⟨q1, q2, q3, -⟩ := h.cur.tst.1 hw
  obtain ⟨R, hR⟩ : ∃ R, Rf.tst T t n (E.map (·.1)) = R := ⟨_, rfl⟩
  rw [hR]
  rw [Rf.tst_22 T t n (E.map (·.1)) q1 (by rw [q2, q3, hk])] at hR
  have kK := mkHid (prKind kindTst h hl hs hG.ft (fun _ => by rw [q1]; exact ⟨by decide, by decide⟩))
  rw [hw, hk] at kK
  have F0 := mkHid (Pf.start h hG)
  have hgl := h.sc.lt
  have HR := mkHid hR
  have HT := mkHid hTst
  have HX := mkHid hXt
  have HG := mkHid hGT
  have _hf := hf
  clear h hG q1 q2 q3 hw hk hR hTst hXt hGT
  go_enter Tryz.func80, Tryz.ntmps80
  go_wp2_with (go_at_call 54; fail)
  refine kK.out.mono ?_
  rintro e w1 ⟨e1, ⟨h0, -⟩ | ⟨-, ⟨kd1, x1, a1, rfl, h1⟩ | hx⟩⟩
  · cases h0
  · obtain ⟨B, hB⟩ : ∃ B, w1.heap.size = B := ⟨_, rfl⟩
    obtain ⟨W0, hW0⟩ : ∃ W0, w1.alloc (.cells #[.int .i64 22, .int .i64 0, .int .i64 0, .string ⟨#[]⟩, .slice none 0 0, .slice none 0 0, .slice none 0 0] 37) = W0 := ⟨_, rfl⟩
    have b0 : Below w1.heap.size w1 W0 := by rw [← hW0]; exact (Below.refl _ _).alloc (Nat.le_refl _) _
    have F2 := mkHid ((F0.out.small (by rw [List.append_nil]; exact h1) e1).below b0)
    have P0 : Hid (Pb w B #[.int .i64 22, .int .i64 0, .int .i64 0, .string ⟨#[]⟩, .slice none 0 0, .slice none 0 0, .slice none 0 0] v W0) := by show Pb w B _ v W0; rw [← hW0, ← hB]; exact Pb.new h1 e1.size
    obtain ⟨kd0, x0, a0, p0⟩ := F2.out.ps
    have hn1 := p0.cur.lt
    have HW0 := mkHid hW0
    have HB := mkHid hB
    have HP0 := mkHid p0
    clear h1 e1 b0 hB hW0 kK F0 p0
    have kT := mkHid (HT.out (n + 1) kd0 x0 a0 v (E ++ ([] : List NdE)) W0 HP0.out F2.out.gl (by omega) (by rw [List.append_nil]; omega))
    obtain ⟨Z, hZ⟩ : ∃ Z, t (n + 1) ((E ++ ([] : List NdE)).map (·.1)) = Z := ⟨_, rfl⟩
    have hR1 := HR.out
    rw [← List.append_nil E, hZ] at hR1
    rw [hZ] at kT
    replace HR := mkHid hR1
    clear hR1 hZ HP0
    go_wp2_with (go_at_call 80; fail)
    rw [HW0.out, HB.out]
    clear HW0
    refine kT.out.mono ?_
    rintro e w2 ⟨e2, h2⟩
    clear kT
    cases Z with
    | bad j =>
      obtain rfl : e = _ := h2
      exact ⟨rfl, F2.out.ef.trans F2.out.nw e2, PrO.bad (by rw [← HR.out]; rfl)⟩
    | ok j N =>
      rcases h2 with ⟨A1, v1, rfl, hN, hp2⟩ | hx
      · have hcn := hp2.cnt
        have hjT : j < T.length := by obtain ⟨_, _, _, h⟩ := hp2.ps; exact h.cur.lt
        obtain ⟨z, hz⟩ : ∃ z, Rf.last N = z := ⟨_, rfl⟩
        rw [hz]
        have F3 := F2.out.call e2 hp2
        rw [List.nil_append] at F3
        have P3 := P0.out.call hgl e2 hp2.nw
        have b3 : Below w2.heap.size w2 (w2.alloc (.cells #[.int .i64 z] 2)) := (Below.refl _ _).alloc (Nat.le_refl _) _
        have hO : OwnN w2.heap.size (.slice (some ⟨w2.heap.size, 0, none⟩) 1 1) [z] (w2.alloc (.cells #[.int .i64 z] 2)) := ⟨rfl, .inr ⟨w2.heap.size, 1, _, rfl, Nat.le_refl _, heap_alloc_at _ _, Nat.le_refl _, by unfold maxLen; omega, rfl, rfl⟩⟩
        have P4 := mkHid (P3.below b3)
        have F5 := mkHid ((F3.kids b3 hO).set P4.out 6 (.slice (some ⟨w2.heap.size, 0, none⟩) 1 1))
        have hNz : R = .ok j ((E ++ A1).map (·.1) ++ [{ Rf.zn 22 with kids := [z] }]) := by
          rw [← HR.out, ← hz]
          show Rf.Out.ok j (N ++ [{ Rf.zn 22 with kids := [Rf.last N] }]) = _
          rw [hN, List.append_nil]
        replace hNz := mkHid hNz
        have d0 : (w2.alloc (.cells #[.int .i64 z] 2)).cell? ⟨B, 0, none⟩ = some (.int .i64 22) := P4.out.cell 0 _ rfl
        have d1 : (w2.alloc (.cells #[.int .i64 z] 2)).cell? ⟨B, 1, none⟩ = some (.int .i64 0) := P4.out.cell 1 _ rfl
        have d2 : (w2.alloc (.cells #[.int .i64 z] 2)).cell? ⟨B, 2, none⟩ = some (.int .i64 0) := P4.out.cell 2 _ rfl
        have d3 : (w2.alloc (.cells #[.int .i64 z] 2)).cell? ⟨B, 3, none⟩ = some (.string ⟨#[]⟩) := P4.out.cell 3 _ rfl
        have d4 : (w2.alloc (.cells #[.int .i64 z] 2)).cell? ⟨B, 4, none⟩ = some (.slice none 0 0) := P4.out.cell 4 _ rfl
        have d5 : (w2.alloc (.cells #[.int .i64 z] 2)).cell? ⟨B, 5, none⟩ = some (.slice none 0 0) := P4.out.cell 5 _ rfl
        have d6 : (w2.alloc (.cells #[.int .i64 z] 2)).cell? ⟨B, 6, none⟩ = some (.slice none 0 0) := P4.out.cell 6 _ rfl
        have z6 : (w2.alloc (.cells #[.int .i64 z] 2)).frozen? ⟨B, 6, none⟩ = false := P4.out.fz 6
        clear hp2 e2 hN hz F3 P3 b3 hO P4 P0 F2
        have kA := mkHid (F5.out.add { Rf.zn 22 with kids := [z] } rfl rfl rfl (by rw [List.length_append]; first | omega | (simp; omega)))
        have hRR : Hid (R = .ok j ((E ++ A1).map (·.1) ++ [{ Rf.zn 22 with kids := [z] }])) := hNz
        clear HR F5
        unfold ndV Rf.zn at kA
        dsimp only at kA
        go_wp2_with (go_at_call 36; fail)
        refine kA.out.mono ?_
        rintro e w9 ⟨rfl, v9, A9, hA9, e9, n9, p9, f9, g9⟩
        obtain ⟨y, hy⟩ : ∃ y : Int, ((E ++ A1).length : Int) = y := ⟨_, rfl⟩
        have hfin : Hid (Ef g v.ownBlock w w9 ∧ PrO g s l T n v E w R (.returned (.int .i64 y)) w9) := by rw [← hy]; exact ⟨e9, PrO.added hA9.out hRR.out n9 p9 f9 g9 (by first | omega | (simp; omega))⟩
        rw [hy]
        clear hA9 e9 n9 p9 f9 g9 kA hRR hy
        clear d0 d1 d2 d3 d4 d5 d6
        go_wp2
        go_ret
        exact hfin.out
      · obtain ⟨m1, m2, rfl⟩ := hx
        exact ⟨rfl, F2.out.ef.trans F2.out.nw e2, PrO.ofX2 (N := N ++ [{ Rf.zn 22 with kids := [Rf.last N] }]) ⟨m1, m2, rfl⟩ (by rw [← HR.out]; rfl)⟩
  · obtain ⟨m1, m2, rfl⟩ := hx
    refine ⟨rfl, e1.weak, ?_⟩
    refine PrO.ofX ⟨m1, m2, rfl⟩ ?_
    rw [← HR.out, HX.out _ _ m2]
    rfl
end Go.Proofs.YtlphojaeaogehaaGreatDoor
