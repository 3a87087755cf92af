
/- The specification's reader of a script: every command, and by induction all. (By tools/gen/rftest.py.) -/

/- Trees by spans and by a stack: more, plain. -/

/- The kids of a filter's node, by its method; lists of numbers that a call has made, more. -/

/- How deep a filter's nodes are, the program's side. -/
import Derived.Test.YtlphojaeaogehaaGreatDoorRfCmd3
import Derived.Test.YtlphojaeaogehaaGreatDoorRpLex
import Derived.Test.YtlphojaeaogehaaGreatDoorAppN
import Derived.Lib.QuietBelow
import Derived.BigQuiet
import Derived.Handy
namespace Go.Proofs.YtlphojaeaogehaaGreatDoor
open Go.RowKit Go.Lib Go.Maps
set_option maxRecDepth 20000 in
set_option maxHeartbeats 8000000 in
theorem specCmdBad (g : Nat) (tv : Value) (l : List UInt8) (T : List Rf.Tk) (TE : List TkE) (P : Nat → List Nd → Rf.Out) (hK : Tks l T TE) (i : Nat) (bad many : Bool) (v : Value) (E : List NdE) (w : World) (h : Rs g tv TE i bad many v E w) (hi : i < T.length) (hy : bad = true ∨ Rf.kind T i ≠ 119 ∨ Rf.cmdK (Rf.text T i) = 0) (n1 : (!bad && Rf.is T i 119 Rf.wIf) = false) (n2 : (!bad && Rf.is T i 119 Rf.wRepeat) = false) (n3 : (!bad && Rf.is T i 119 Rf.wSet) = false) (hP : Rf.given bad i (P i (E.map (·.1))) = .bad i) :
    Calls Tryz.prog 10 #[.pointer (some ⟨g, 0, none⟩)] w fun e w' => ∃ z A i' bad' many' v', e = .returned (.int .i64 z) ∧ RdP g tv T TE 0 P i bad many v E w z A i' bad' many' v' w' := by
  have hgl := heap_ltM h.blk
  have hll := hK.length
  have hl := hK.len
  have hi2 : i < TE.length := by omega
  have HK := mkHid hK
  have HP := mkHid hP
  have kM := mkHid (jMay hK h hi 119 Rf.wIf)
  have nIf := mkHid n1
  have nRe := mkHid n2
  have nSe := mkHid n3
  clear h hK hP n1 n2 n3
  go_enter Tryz.func10, Tryz.ntmps10
  go_wp2_with (go_at_call 25; fail)
  refine kM.out.mono ?_
  rintro e w1 ⟨j1, y1, rfl, h1, e1, hj1, hij1, hij1b, r1, s1⟩
  obtain rfl : y1 = false := by rw [r1.out, nIf.out]
  obtain rfl : j1 = i := s1.out
  obtain ⟨B, hB⟩ : ∃ B, w1.heap.size = B := ⟨_, rfl⟩
  have S0 := mkHid (Fm.start hgl h1 e1 0)
  rw [hB] at S0
  obtain ⟨W0, hW0⟩ : ∃ W0, w1.alloc (.cells #[.int .i64 0, .int .i64 0, .int .i64 0, .string ⟨#[]⟩, .slice none 0 0, .slice none 0 0, .slice none 0 0] 37) = W0 := ⟨_, rfl⟩
  rw [show w1.alloc (.cells (sevC (Rf.zn 0) (.slice none 0 0) (.slice none 0 0) (.slice none 0 0)) 37) = W0 from hW0] at S0
  have HW0 := mkHid hW0
  have HB := mkHid hB
  clear h1 e1 kM hW0 hB r1 s1
  have kM := mkHid (jMay HK.out S0.out.rs hi 119 Rf.wRepeat)
  go_wp2_with (go_at_call 25; fail)
  rw [HW0.out, HB.out]
  refine kM.out.mono ?_
  rintro e W1 ⟨j2, y2, rfl, h2, e2, hj2, hij2, hij2b, r2, s2⟩
  have S1 := mkHid (S0.out.small h2 e2)
  clear h2 e2 kM S0 HW0 HB
  obtain rfl : y2 = false := by rw [r2.out, nRe.out]
  obtain rfl : j2 = j1 := s2.out
  clear r2 s2
  have kM := mkHid (jMay HK.out S1.out.rs hj2 119 Rf.wSet)
  go_wp2_with (go_at_call 25; fail)
  refine kM.out.mono ?_
  rintro e W2 ⟨j3, y3, rfl, h3, e3, hj3, hij3, hij3b, r3, s3⟩
  have S2 := mkHid (S1.out.small h3 e3)
  clear h3 e3 kM S1
  obtain rfl : y3 = false := by rw [r3.out, nSe.out]
  obtain rfl : j3 = j2 := s3.out
  clear r3 s3
  obtain ⟨c0, c1, c2, c3, c4⟩ := five S2.out.rs.blk
  obtain ⟨o, cap, htv⟩ := S2.out.rs.tks.shape
  have htk := S2.out.rs.tks
  rw [htv] at htk c0
  have hj4 : j3 < TE.length := by omega
  obtain ⟨q, ho, -, -, e0, e1, e2⟩ := htk.at j3 hj4
  subst ho
  clear htk htv
  have hii : ((j3 : Nat) : Int) < (TE.length : Int) := by omega
  have hC : ∀ W : World, Calls Tryz.prog 32 #[.string TE[j3].2.1] W fun e w' => e = .returned (.int .i64 (Rf.cmdK (Rf.text T j3))) ∧ w' = W := fun W => (specCmdW TE[j3].2.1 W).mono fun _ _ h => ⟨by rw [h.1, HK.out.text j3 hj4, Rf.ba_list], h.2.symm⟩
  have key : ∀ W, Below W2.heap.size W2 W → Hid (W.frozen? ⟨g, 2, none⟩ = false ∧ W.cell? ⟨g, 2, none⟩ = some (.bool bad) ∧ Fm g tv TE v E w B (Rf.zn 0) (.slice none 0 0) (.slice none 0 0) (.slice none 0 0) j3 true many v [] (W.setCell ⟨g, 2, none⟩ (.bool true))) := fun W hb => by
    have h1 := S2.out.rs.below hb
    exact ⟨by simp [World.frozen?, h1.blk], (five h1.blk).2.2.1, S2.out.small (h1.set 2 (.bool true) j3 true many rfl) (Ef.ahead hb (Ef.set g none W 2 _))⟩
  have hkd := HK.out.kind j3 hj4
  rw [← hkd] at hy
  generalize TE[j3].1 = k1 at *
  generalize TE[j3].2.1 = t1 at *
  generalize Rf.cmdK (Rf.text T j3) = z at *
  replace key := mkHid key
  replace hC := mkHid hC
  clear S2 hkd
  go_wp2
  have fin : ∀ nq, ∃ z A i' bad' many' v', Ending.returned (.int .i64 0) = .returned (.int .i64 z) ∧ RdP g tv T TE 0 P j3 bad many v E w z A i' bad' many' v' ((W2.drewN nq).setCell ⟨g, 2, none⟩ (.bool true)) := by
    intro nq
    have S := (key.out (W2.drewN nq) (below_drewN (Below.refl _ _) _)).2.2
    exact ⟨0, [], j3, true, many, v, rfl, RdP.mk2 _ rfl S.rs S.ef S.nw S.fr S.frN hi (Nat.le_refl _) (by simp) (fun e => (by cases e)) (fun _ => HP.out) (fun e => (by cases e))⟩
  replace fin := mkHid fin
  cases bad
  · by_cases hk : k1 = 119
    · have hk1 : ((k1 : Int) != 119) = false := by rw [bne_eq_false_iff_eq, hk]; rfl
      have hmz : z = 0 := by rcases hy with hy | hy | hy; cases hy; exact absurd hk hy; exact hy
      subst hmz
      clear hy hk
      go_quiet (exact Calls.quiet_of_same (hC.out _))
      obtain ⟨z1, z0, -⟩ := key.out (W2.drewN nq) (below_drewN (Below.refl _ _) _)
      go_wp2
      go_ret
      exact fin.out nq
    · have hk1 : ((k1 : Int) != 119) = true := by rw [bne_iff_ne]; intro e; exact hk (by omega)
      clear hy hk hC
      go_quiet (fail)
      obtain ⟨z1, z0, -⟩ := key.out (W2.drewN nq) (below_drewN (Below.refl _ _) _)
      go_wp2
      go_ret
      exact fin.out nq
  · clear hy hC
    go_quiet (fail)
    obtain ⟨z1, z0, -⟩ := key.out (W2.drewN nq) (below_drewN (Below.refl _ _) _)
    go_wp2
    go_ret
    exact fin.out nq
set_option maxRecDepth 20000 in
theorem specCmd (g : Nat) (tv : Value) (l : List UInt8) (T : List Rf.Tk) (TE : List TkE) (f : Nat) (t c : Nat → List Nd → Rf.Out) (hK : Tks l T TE) (hT : T.length ≤ 30000) (hSz : ∀ e ∈ TE, e.2.1.size ≤ 1048576) (hTst : RdC 47 g tv T TE 0 f t) (hCmd : RdC 10 g tv T TE 0 f c) :
    RdC 10 g tv T TE 0 (f + 1) (Rf.cmd T t c) := by
  have hBlk := specBlock g tv l T TE f c hK hT hCmd
  have hBr := specBranch g tv l T TE f t c hK hT hTst (hBlk.less (Nat.le_succ f)) T.length (min f T.length) (Nat.min_le_left _ _) (Nat.min_le_right _ _)
  intro i bad many v E w h hi hf hE
  cases bad with
  | true => exact specCmdBad g tv l T TE _ hK i true many v E w h hi (.inl rfl) rfl rfl rfl rfl
  | false =>
    by_cases hk : Rf.kind T i = 119
    · cases h1 : Rf.is T i 119 Rf.wIf
      · cases h2 : Rf.is T i 119 Rf.wRepeat
        · cases h3 : Rf.is T i 119 Rf.wSet
          · by_cases h0 : Rf.cmdK (Rf.text T i) = 0
            · exact specCmdBad g tv l T TE _ hK i false many v E w h hi (.inr (.inr h0)) (by rw [h1]; rfl) (by rw [h2]; rfl) (by rw [h3]; rfl) (by rw [Rf.given, if_neg (by decide)]; exact Rf.cmd_no T t c i _ (.inr ⟨h1, h2, h3, h0⟩))
            · by_cases h7 : 7 ≤ Rf.cmdK (Rf.text T i)
              · exact specCmdTwo g tv l T TE t c hK hT i many v E w h hi hE h1 h2 h3 hk _ rfl h0 h7
              · exact specCmdOne g tv l T TE t c hK hT i many v E w h hi hE h1 h2 h3 hk _ rfl h0 h7
          · exact specCmdSet g tv l T TE t c hK hT hSz i many v E w h hi hE h1 h2 h3
        · exact specCmdRep g tv l T TE t c hK hT (f + 1) hBlk i many v E w h hi hE (by omega) h1 h2
      · exact specCmdIf g tv l T TE t c hK hT (min f T.length) hBr i many v E w h hi hE (by omega) h1
    · have hn : ∀ x, Rf.is T i 119 x = false := fun x => by unfold Rf.is; simp [hk]
      exact specCmdBad g tv l T TE _ hK i false many v E w h hi (.inr (.inl hk)) (by rw [hn]; rfl) (by rw [hn]; rfl) (by rw [hn]; rfl) (by rw [Rf.given, if_neg (by decide)]; exact Rf.cmd_no T t c i _ (.inl hk))
set_option maxRecDepth 20000 in
theorem specLv (g : Nat) (tv : Value) (l : List UInt8) (T : List Rf.Tk) (TE : List TkE) (hK : Tks l T TE) (hT : T.length ≤ 30000) (hSz : ∀ e ∈ TE, e.2.1.size ≤ 1048576) : ∀ f, RdC 47 g tv T TE 0 f (Rf.lv T f).1 ∧ RdC 10 g tv T TE 0 f (Rf.lv T f).2
  | 0 => ⟨fun i _ _ _ _ _ _ hi hf _ => absurd hf (by omega), fun i _ _ _ _ _ _ hi hf _ => absurd hf (by omega)⟩
  | f + 1 => by
    obtain ⟨h1, h2⟩ := specLv g tv l T TE hK hT hSz f
    exact ⟨specTest g tv l T TE f _ hK hT h1, specCmd g tv l T TE f _ _ hK hT hSz h1 h2⟩
end Go.Proofs.YtlphojaeaogehaaGreatDoor
namespace Go.Proofs.YtlphojaeaogehaaGreatDoor
namespace Tr
variable {ok ok' : Nat → Bool} {kids : Nat → List Int}
set_option maxRecDepth 20000 in
theorem Fo.le {d lo hi : Nat} {ks : List Int} (h : Fo ok kids d lo hi ks) : lo ≤ hi := by
  induction h with
  | nil => exact Nat.le_refl _
  | snoc d lo m k ks _ _ _ ih1 ih2 => omega
set_option maxRecDepth 20000 in
theorem Fo.range {d lo hi : Nat} {ks : List Int} (h : Fo ok kids d lo hi ks) : ∀ k ∈ ks, 0 ≤ k ∧ k < (hi : Int) := by
  induction h with
  | nil => intro k hk; cases hk
  | snoc d lo m k ks h1 _ h3 ih1 _ =>
    intro j hj
    rcases List.mem_append.1 hj with hj | hj
    · have := ih1 j hj
      have := h3.le
      omega
    · obtain rfl : j = (k : Int) := by simpa using hj
      omega
set_option maxRecDepth 20000 in
theorem fo_dep' (N : Nat) (dep : Nat → Nat) (hdep : ∀ i, i < N → (∀ k ∈ kids i, 0 ≤ k ∧ k < (i : Int)) → dep i = mx dep (kids i) + 1) {d lo hi : Nat} {ks : List Int} (h : Fo ok kids d lo hi ks) : hi ≤ N → ∀ k ∈ ks, dep k.toNat ≤ d := by
  induction h with
  | nil => intro _ k hk; cases hk
  | snoc d lo m k ks h1 _ h3 ih1 ih2 =>
    intro hN j hj
    have hmk := h3.le
    rcases List.mem_append.1 hj with hj | hj
    · exact ih1 (by omega) j hj
    · obtain rfl : j = (k : Int) := by simpa using hj
      rw [Int.toNat_natCast, hdep k (by omega) h3.range]
      have := (mx_le dep (kids k) d).2 (ih2 (by omega))
      omega
set_option maxRecDepth 20000 in
theorem dep_fo' (N : Nat) (dep : Nat → Nat) (hdep : ∀ i, i < N → (∀ k ∈ kids i, 0 ≤ k ∧ k < (i : Int)) → dep i = mx dep (kids i) + 1) {D lo hi : Nat} {ks : List Int} (h : Fo ok kids D lo hi ks) : hi ≤ N → ∀ d, (∀ k ∈ ks, dep k.toNat ≤ d) → Fo ok kids d lo hi ks := by
  induction h with
  | nil => exact fun _ d _ => Fo.nil _ _
  | snoc D lo m k ks h1 h2 h3 ih1 ih2 =>
    intro hN d hd
    have hmk := h3.le
    have hk := hd k (List.mem_append.2 (.inr (List.mem_singleton.2 rfl)))
    rw [Int.toNat_natCast, hdep k (by omega) h3.range] at hk
    obtain ⟨e, rfl⟩ : ∃ e, d = e + 1 := ⟨d - 1, by omega⟩
    exact Fo.snoc e lo m k ks (ih1 (by omega) _ fun j hj => hd j (List.mem_append.2 (.inl hj))) h2 (ih2 (by omega) e ((mx_le dep (kids k) e).1 (by omega)))
set_option maxRecDepth 20000 in
theorem same' (N : Nat) (dep : Nat → Nat) (hdep : ∀ i, i < N → (∀ k ∈ kids i, 0 ≤ k ∧ k < (i : Int)) → dep i = mx dep (kids i) + 1) (known : Nat → Prop) (hw : ∀ k, ok k = true → ok' k = true) (hk : ∀ k, known k → ok' k = true → ok k = true ∧ ∀ j ∈ kids k, known j.toNat) (n d : Nat) (hN : n + 1 ≤ N) (hn : known n) :
    span ok kids (d + 1) n = some 0 ↔ (run ok' kids (n + 1) = some [(n : Int)] ∧ dep n ≤ d + 1) := by
  constructor
  · intro h
    obtain ⟨h1, e, he, h2⟩ := span_fo _ _ _ h
    obtain rfl : d = e := by omega
    have hf : Fo ok kids (d + 1) 0 (n + 1) ([] ++ [(n : Int)]) := Fo.snoc d 0 0 n [] (Fo.nil _ _) h1 h2
    refine ⟨by simpa using fo_run (fo_weaken hw hf) [] rfl, ?_⟩
    have := fo_dep' N dep hdep hf hN n (by simp)
    rwa [Int.toNat_natCast] at this
  · rintro ⟨h1, h2⟩
    obtain ⟨D, hD⟩ := run_fo _ _ h1
    have hf := dep_fo' N dep hdep (fo_known known hk hD (by intro k hk'; obtain rfl : k = (n : Int) := by simpa using hk'
                                                            rwa [Int.toNat_natCast])) hN (d + 1) (by intro k hk'; obtain rfl : k = (n : Int) := by simpa using hk'
                                                                                                     rwa [Int.toNat_natCast])
    generalize hl : [(n : Int)] = l at hf
    generalize hh : n + 1 = hi at hf
    generalize hd : d + 1 = dd at hf
    cases hf with
    | nil => cases hl
    | snoc d' lo m k ks h3 h4 h5 =>
      obtain ⟨rfl⟩ : d = d' := by omega
      obtain rfl : n = k := by omega
      obtain rfl : ks = [] := by
        have := congrArg List.length hl
        simp at this
        exact this
      generalize hz : (0 : Nat) = z at h3
      generalize hnil : ([] : List Int) = nl at h3
      cases h3 with
      | nil => exact fo_span d _ n h4 h5
      | snoc => simp at hnil
set_option maxRecDepth 20000 in
theorem run_range (n : Nat) (o : List Int) (h : run ok kids n = some o) : ∀ k ∈ o, 0 ≤ k ∧ k < (n : Int) := by
  obtain ⟨d, hd⟩ := run_fo n o h
  exact hd.range
set_option maxRecDepth 20000 in
theorem mx_congr (f g : Nat → Nat) (l : List Int) (h : ∀ k ∈ l, f k.toNat = g k.toNat) : mx f l = mx g l := by
  induction l with
  | nil => rfl
  | cons k r ih =>
    simp only [mx]
    rw [h k (List.mem_cons_self ..), ih fun j hj => h j (List.mem_cons_of_mem _ hj)]
set_option maxRecDepth 20000 in
theorem run_none (n : Nat) (h : run ok kids n = none) : ∀ m, n ≤ m → run ok kids m = none
  | 0, hm => by obtain rfl : n = 0 := by omega
                exact h
  | m + 1, hm => by
    by_cases e : n = m + 1
    · rw [← e]; exact h
    · have := run_none n h m (by omega)
      unfold run
      rw [this]
set_option maxRecDepth 20000 in
theorem run_kids : ∀ (n : Nat) (o : List Int), run ok kids n = some o → ∀ i, i < n → ∀ k ∈ kids i, 0 ≤ k ∧ k < (i : Int)
  | 0, o, _, i, hi => by omega
  | n + 1, o, h, i, hi => by
    unfold run at h
    split at h
    · cases h
    · rename_i p hp
      split at h
      · rename_i hc
        by_cases e : i = n
        · subst e
          intro k hk
          rw [← hc.2.1] at hk
          exact run_range i p hp k (List.mem_of_mem_drop hk)
        · exact run_kids n p hp i (by omega)
      · cases h
set_option maxRecDepth 20000 in
theorem run_len : ∀ (n : Nat) (o : List Int), run ok kids n = some o → o.length ≤ n
  | 0, o, h => by cases h; exact Nat.le_refl _
  | n + 1, o, h => by
    unfold run at h
    split at h
    · cases h
    · rename_i p hp
      split at h
      · cases h
        have := run_len n p hp
        rw [List.length_append, List.length_take, List.length_singleton]
        omega
      · cases h
set_option maxRecDepth 20000 in
theorem mx_snoc (dep : Nat → Nat) (l : List Int) (k : Int) : mx dep (l ++ [k]) = max (mx dep l) (dep k.toNat) := by
  induction l with
  | nil => simp [mx]
  | cons a r ih => simp only [List.cons_append, mx, ih]; omega
/-- The depths, node by node; kids that stand behind their node count as nothing. -/
def depTo (kids : Nat → List Int) : Nat → Nat → Nat
  | 0, _ => 0
  | n + 1, i => if i = n then mx (depTo kids n) (kids n) + 1 else depTo kids n i
set_option maxRecDepth 20000 in
theorem depTo_le (kids : Nat → List Int) : ∀ n i, depTo kids n i ≤ n
  | 0, _ => Nat.le_refl _
  | n + 1, i => by
    unfold depTo
    split
    · have := (mx_le (depTo kids n) (kids n) n).2 (fun k _ => depTo_le kids n k.toNat)
      omega
    · have := depTo_le kids n i
      omega
set_option maxRecDepth 20000 in
theorem depTo_up (kids : Nat → List Int) (i : Nat) : ∀ n, i < n → depTo kids n i = depTo kids (i + 1) i
  | 0, h => by omega
  | n + 1, h => by
    by_cases hi : i = n
    · rw [hi]
    · rw [← depTo_up kids i n (by omega)]
      conv => lhs; unfold depTo
      rw [if_neg hi]
set_option maxRecDepth 20000 in
theorem depTo_mid (kids : Nat → List Int) (i m n : Nat) (h1 : i < m) (h2 : i < n) : depTo kids m i = depTo kids n i := by rw [depTo_up kids i m h1, depTo_up kids i n h2]
set_option maxRecDepth 20000 in
theorem depTo_step (kids : Nat → List Int) (N i : Nat) (h : i < N) (hk : ∀ k ∈ kids i, 0 ≤ k ∧ k < (i : Int)) : depTo kids N i = mx (depTo kids N) (kids i) + 1 := by
  rw [depTo_up kids i N h]
  conv => lhs; unfold depTo
  rw [if_pos rfl, mx_congr (depTo kids i) (depTo kids N) (kids i) fun k hk' => depTo_mid kids _ i N (by have := hk k hk'; omega) (by have := hk k hk'; omega)]
/-- A stack without tests. -/
def tt : Nat → Bool := fun _ => true
set_option maxRecDepth 20000 in
theorem run_ok : ∀ (n : Nat) (o : List Int), run ok kids n = some o ↔ (run tt kids n = some o ∧ ∀ i, i < n → ok i = true)
  | 0, o => by
    constructor
    · intro h; exact ⟨h, fun i hi => by omega⟩
    · intro h; exact h.1
  | n + 1, o => by
    constructor
    · intro h
      unfold run at h
      split at h
      · cases h
      · rename_i p hp
        split at h
        · rename_i hc
          obtain ⟨h1, h2⟩ := (run_ok n p).1 hp
          refine ⟨?_, fun i hi => ?_⟩
          · unfold run
            rw [h1]
            dsimp only
            rw [if_pos ⟨hc.1, hc.2.1, rfl⟩]
            exact h
          · by_cases e : i = n
            · rw [e]; exact hc.2.2
            · exact h2 i (by omega)
        · cases h
    · rintro ⟨h, hk⟩
      unfold run at h
      split at h
      · cases h
      · rename_i p hp
        split at h
        · rename_i hc
          have := (run_ok n p).2 ⟨hp, fun i hi => hk i (by omega)⟩
          unfold run
          rw [this]
          dsimp only
          rw [if_pos ⟨hc.1, hc.2.1, hk n (by omega)⟩]
          exact h
        · cases h
def oneT (kids : Nat → List Int) (N : Nat) : Bool := match run tt kids N with | none => false | some o => (o.length : Int) == 1
set_option maxRecDepth 20000 in
theorem oneT_iff (kids : Nat → List Int) (n : Nat) : oneT kids (n + 1) = true ↔ run tt kids (n + 1) = some [(n : Int)] := by
  unfold oneT
  constructor
  · intro h
    cases hr : run tt kids (n + 1) with
    | none => rw [hr] at h; cases h
    | some o =>
      rw [hr] at h
      obtain ⟨p, rfl⟩ := run_last n o hr
      have : p = [] := by
        simp at h
        first | exact h | (exact List.length_eq_zero_iff.1 (by omega))
      rw [this]
      rfl
  · intro h
    rw [h]
    rfl
set_option maxRecDepth 20000 in
theorem oneT_none (kids : Nat → List Int) (i N : Nat) (hi : i ≤ N) (h : run tt kids i = none) : oneT kids N = false := by
  unfold oneT
  rw [run_none i h N hi]
set_option maxRecDepth 20000 in
theorem oneT_zero (kids : Nat → List Int) : oneT kids 0 = false := rfl
set_option maxRecDepth 20000 in
theorem oneT_kids (kids : Nat → List Int) (N : Nat) (h : oneT kids N = true) : ∀ i, i < N → ∀ k ∈ kids i, 0 ≤ k ∧ k < (i : Int) := by
  unfold oneT at h
  cases hr : run tt kids N with
  | none => rw [hr] at h; cases h
  | some o => exact run_kids N o hr
set_option maxRecDepth 20000 in
/-- Both ways say the same. -/
theorem span_oneT (n d : Nat) : span ok kids (d + 1) n = some 0 ↔ (oneT kids (n + 1) = true ∧ depTo kids (n + 1) n ≤ d + 1 ∧ ∀ i, i < n + 1 → ok i = true) := by
  rw [same' (ok := ok) (ok' := ok) (n + 1) (depTo kids (n + 1)) (fun i => depTo_step kids (n + 1) i) (fun _ => True) (fun _ h => h) (fun _ _ h => ⟨h, fun _ _ => trivial⟩) n d (Nat.le_refl _) trivial, run_ok, oneT_iff]
  exact ⟨fun ⟨⟨a, b⟩, c⟩ => ⟨a, c, b⟩, fun ⟨a, c, b⟩ => ⟨⟨a, b⟩, c⟩⟩
end Tr
end Go.Proofs.YtlphojaeaogehaaGreatDoor
namespace Go.Proofs.YtlphojaeaogehaaGreatDoor
open Go.RowKit Go.Lib Go.Maps
set_option maxRecDepth 20000 in
theorem methKids (n : Nd) (v4 v5 v6 : Value) (w : World) :
    Calls Tryz.prog 141 #[ndV n v4 v5 v6] w fun e w' => e = .returned v6 ∧ w' = w.alloc (.cells #[.int .i64 n.kind, .int .i64 n.num, .int .i64 n.mat, .string n.text, v4, v5, v6] 37) := by
  unfold ndV
  go_enter Tryz.func141, Tryz.ntmps141
  go_wp2
  go_ret
  exact ⟨rfl, rfl⟩
set_option maxRecDepth 20000 in
theorem methKidsB (n : Nd) (v4 v5 v6 : Value) (w : World) :
    Calls Tryz.prog 141 #[ndV n v4 v5 v6] w fun e w' => e = .returned v6 ∧ Below w.heap.size w w' :=
  (methKids n v4 v5 v6 w).mono fun _ _ ⟨h1, h2⟩ => ⟨h1, by rw [h2]; exact (Below.refl _ _).alloc (Nat.le_refl _) _⟩
set_option maxRecDepth 20000 in
/-- 184: the fuel of 'method' at the seat. -/
theorem methodK (v : Value) (w : World) : (method 184 37 v "loop.example/g00013/impl.kids").run Tryz.prog w = .ok (141, v) w := by kernel_rfl
set_option maxRecDepth 20000 in
theorem entersK : ∀ (args : Array Value) (w : World), (callFunc 141 args).run Tryz.prog w = .ok (.enter 141 args) w := Go.Proofs.enters_of Tryz.func141 (by kernel_rfl) rfl
set_option maxRecDepth 20000 in
theorem OwnN.form' {B : Nat} {v : Value} {P : List Int} {w : World} (h : OwnN B v P w) : ∃ o cap, v = .slice o P.length cap ∧ P.length ≤ cap ∧ (P = [] ∧ o = none ∧ cap = 0 ∨ ∃ g, o = some ⟨g, 0, none⟩ ∧ B ≤ g ∧ g < w.heap.size ∧ ∀ (j : Nat) (hj : j < P.length), w.cell? ⟨g, j, none⟩ = some (.int .i64 P[j])) := by
  have hl := World.ownsRow.lt h
  have hh := h
  rcases h.2 with ⟨rfl, h0⟩ | ⟨g, cap, cur, rfl, hB, -, hc, -⟩
  · exact ⟨none, 0, by rw [h0], by omega, .inl ⟨List.length_eq_zero_iff.1 h0, rfl, rfl⟩⟩
  · refine ⟨_, cap, rfl, hc, .inr ⟨g, rfl, hB, (hl g rfl).2, fun j hj => ?_⟩⟩
    have := World.ownsRow.cells hh (g := g) rfl j (.int .i64 P[j]) (by simp [numCells, hj])
    rwa [add_off] at this
set_option maxRecDepth 20000 in
theorem OwnN.cut {B n cap : Nat} {o : Option Addr} {P : List Int} {w : World} (h : OwnN B (.slice o n cap) P w) (k : Nat) (hk : k ≤ P.length) : OwnN B (.slice o k cap) (P.take k) w := by
  obtain ⟨h1, h2⟩ := h
  have hl : (P.take k).length = k := by rw [List.length_take]; omega
  refine ⟨by unfold numCells; rw [List.length_map, Nat.mul_one], ?_⟩
  rcases h2 with ⟨h2, h3⟩ | ⟨g', cap', cur, e1, e2, e3, e4, e5, e6, e7⟩
  · cases h2
    obtain rfl : k = 0 := by omega
    exact .inl ⟨rfl, by simp⟩
  · cases e1
    refine .inr ⟨g', cap, cur, by rw [hl], e2, e3, by omega, e5, e6, ?_⟩
    rw [hl, Nat.mul_one]
    rw [Nat.mul_one] at e7
    have e10 := congrArg (List.take k) e7
    rw [List.take_take, Nat.min_eq_left hk] at e10
    rw [e10]
    unfold numCells
    rw [List.map_take]
set_option maxRecDepth 20000 in
/-- What lies from a place on, as a list that is handed on. -/
theorem ints_drop {B : Nat} {P : List Int} {o o' : Option Addr} {cap m : Nat} {w : World} (hm : m ≤ P.length) (hc : P.length ≤ cap) (h : P = [] ∧ o = none ∧ cap = 0 ∨ ∃ g, o = some ⟨g, 0, none⟩ ∧ g < B ∧ ∀ (j : Nat) (hj : j < P.length), w.cell? ⟨g, j, none⟩ = some (.int .i64 P[j])) (ho : o' = (if cap = m then o else o.map (·.add m))) : Ints B w o' (P.drop m) := by
  intro k hk
  rw [List.length_drop] at hk
  rcases h with ⟨rfl, -, -⟩ | ⟨g, rfl, hg, hcell⟩
  · simp at hk
  · rw [if_neg (by omega)] at ho
    refine ⟨⟨g, m, none⟩, by rw [ho, Option.map_some, add_off], hg, ?_⟩
    rw [show (⟨g, m, none⟩ : Addr).add k = ⟨g, m + k, none⟩ by simp [Addr.add], hcell (m + k) (by omega), List.getElem_drop]
end Go.Proofs.YtlphojaeaogehaaGreatDoor
namespace Go.Proofs.YtlphojaeaogehaaGreatDoor
open Go.RowKit Go.Lib Go.Maps
set_option maxRecDepth 20000 in
theorem Tryz.info3 : (Tryz.prog.info? 3).map (fun i => (i.zero, i.size, i.bytes)) = some (some (.int .i64 0), 1, 8) := by kernel_rfl
set_option maxRecDepth 20000 in
theorem row_below {w w' : World} {b t n : Nat} {f : Nat → Value} (h : w.rowIs b t n f) (hb : Below w.heap.size w w') : w'.rowIs b t n f := by
  have hl := h.lt
  unfold World.rowIs at h ⊢
  rw [hb.block b hl]
  exact h
set_option maxHeartbeats 2000000 in
set_option maxRecDepth 20000 in
theorem implDepth (o : Option Addr) (F : List Nd) (cap : Nat) (w : World) (hF : Nds w.heap.size w o F) (hlF : F.length ≤ 2000) (h1 : 1 ≤ F.length) (hfit : ∀ n ∈ F, n.fits 1048576) (hin : ∀ i, i < F.length → ∀ k ∈ Fn.kids F i, 0 ≤ k ∧ k < (i : Int)) :
    Calls Tryz.prog 37 #[.slice o F.length cap] w fun e w' => e = .returned (.int .i64 (Tr.depTo (Fn.kids F) F.length (F.length - 1))) ∧ Below w.heap.size w w' := by
  have hmk := run_make_row' (P := Tryz.prog) 83 3 (.int .i64 0) 8 Tryz.underlying83 Tryz.info3 rfl .i64 .i64 F.length (by omega) (by omega)
  have HF := mkHid hF
  have Hin := mkHid hin
  clear hF hin
  go_enter Tryz.func37, Tryz.ntmps37
  go_wp2
  clear hmk
  generalize hG : w.heap.size = G at *
  go_loopw [13] (fun iv wr => ∃ (i : Nat) (d : Nat → Nat), i ≤ F.length ∧ iv = .int .i64 i ∧ wr.rowIs G 3 F.length (fun j => .int .i64 (d j)) ∧ Hid ((∀ j, j < i → d j = Tr.depTo (Fn.kids F) i j) ∧ ∀ j, i ≤ j → d j = 0) ∧ Below G w wr) (fun iv _ => F.length - (Lib.intOf iv).toNat)
  case atStart => exact ⟨0, fun _ => 0, Nat.zero_le _, rfl, hG ▸ World.rowIs_made w (.int .i64 0) F.length 3, ⟨fun j h => by omega, fun _ _ => rfl⟩, (Below.refl _ _).alloc (by omega) _⟩
  case round =>
    obtain ⟨i, d, hi, rfl, hrow, hd, hb⟩ := hrel
    by_cases hlt : i < F.length
    · obtain ⟨a, v4, v5, v6, rfl, ha, hA0, hI⟩ := HF.out i hlt
      have hA := hA0.below hb (by rw [add_blockN]; exact ha)
      clear hA0
      obtain ⟨⟨a4, e4, rfl, -⟩, ⟨a5, e5, rfl, -⟩, ⟨a6, e6, rfl, t3⟩⟩ := hI
      have hkids : Hid (Fn.kids F i = F[i].kids) := by show Fn.kids F i = _; unfold Fn.kids; rw [List.getElem?_eq_getElem hlt]; rfl
      have hkin := mkHid (fun k hk => Hin.out i hlt k (by rw [hkids.out]; exact hk))
      have c0 := hA.c0
      have c1 := hA.c1
      have c2 := hA.c2
      have c3 := hA.c3
      have c4 := hA.c4
      have c5 := hA.c5
      have c6 := hA.c6
      have hkl : F[i].kids.length ≤ 1048576 := (hfit F[i] (List.getElem_mem hlt)).2.2.2.2.2
      replace t3 := mkHid t3
      have hGl := hrow.lt
      have hsz := hb.size
      clear hA
      generalize F[i] = n at *
      have hrow0 := mkHid (hrow.alloc (.cells #[.int .i64 n.kind, .int .i64 n.num, .int .i64 n.mat, .string n.text, .slice a4 n.names.length e4, .slice a5 n.keys.length e5, .slice a6 n.kids.length e6] 37))
      have hb0 := mkHid (hb.alloc (by omega) (.cells #[.int .i64 n.kind, .int .i64 n.num, .int .i64 n.mat, .string n.text, .slice a4 n.names.length e4, .slice a5 n.keys.length e5, .slice a6 n.kids.length e6] 37))
      obtain ⟨V, hV⟩ : ∃ V, V = wr.alloc (.cells #[.int .i64 n.kind, .int .i64 n.num, .int .i64 n.mat, .string n.text, .slice a4 n.names.length e4, .slice a5 n.keys.length e5, .slice a6 n.kids.length e6] 37) := ⟨_, rfl⟩
      have cM0 := methKidsB n (.slice a4 n.names.length e4) (.slice a5 n.keys.length e5) (.slice a6 n.kids.length e6) V
      unfold ndV at cM0
      have cM := mkHid cM0
      rw [← hV] at hrow0 hb0
      have hbV : Below wr.heap.size wr V := by rw [hV]; exact (Below.refl _ _).alloc (Nat.le_refl _) _
      replace hbV := mkHid hbV
      replace hV := mkHid hV
      clear cM0
      obtain ⟨wo, hwo⟩ : ∃ wo, wo = wr := ⟨_, rfl⟩
      go_wp2_with fail
      rw [← hV.out]
      refine cM.out.mono ?_
      rintro e V2 ⟨rfl, hb2⟩
      have hGV : G ≤ V.heap.size := Nat.le_trans (hG ▸ hsz) hbV.out.size
      have hrow2 := mkHid (row_below hrow0.out hb2)
      have hb3 := mkHid (hb0.out.trans (hb2.mono hGV))
      have hbw2 := mkHid (hbV.out.trans (hb2.mono hbV.out.size))
      clear hrow0 hb0 cM hb2 hV
      subst hwo
      go_wp2
      clear c0 c1 c2 c3 c4 c5 c6
      go_loopw [7, 22] (fun _ cv wr => ∃ (c : Nat) (d' : Nat → Nat), c ≤ n.kids.length ∧ cv = .int .i64 c ∧ wr.rowIs G 3 F.length (fun j => .int .i64 (d' j)) ∧ Hid ((∀ j, j ≠ i → d' j = d j) ∧ d' i = Tr.mx (Tr.depTo (Fn.kids F) i) (n.kids.take c)) ∧ Below G w wr) (fun _ cv _ => n.kids.length - (Lib.intOf cv).toNat)
      case atStart => exact ⟨0, d, Nat.zero_le _, rfl, hrow2.out, ⟨fun _ _ => rfl, hd.out.2 i (Nat.le_refl _)⟩, hb3.out⟩
      case round =>
        clear hrow hb hrow2 hb3 hbw2 hbV
        obtain ⟨c, d', hc, rfl, hrow, hd', hb⟩ := hrel
        by_cases hcl : c < n.kids.length
        · obtain ⟨b, rfl, hbb, ck⟩ := (t3.out.below hb) c hcl
          obtain ⟨k1, k2⟩ := hkin.out n.kids[c] (List.getElem_mem hcl)
          obtain ⟨q, hq⟩ : ∃ q : Nat, n.kids[c] = (q : Int) := ⟨n.kids[c].toNat, by omega⟩
          have hst : Hid (n.kids.take (c + 1) = n.kids.take c ++ [(q : Int)]) := by show _ = _; rw [List.take_succ_eq_append_getElem hcl, hq]
          rw [hq] at ck k2
          have hqi : q < i := by omega
          have r1 := hrow.cell (i := i) hlt
          have r2 := hrow.cell (i := q) (by omega)
          have z1 := hrow.frozen i
          have hrow1 := mkHid (fun v => hrow.drew.set i v)
          have hb1 := mkHid (fun v => hb.drew.setCell (p := ⟨G, i, none⟩) (Nat.le_refl _) v)
          obtain ⟨x, hx⟩ : ∃ x, d' i = x := ⟨_, rfl⟩
          obtain ⟨y, hy⟩ : ∃ y, d' q = y := ⟨_, rfl⟩
          simp only [hx] at r1
          simp only [hy] at r2
          replace hx := mkHid hx
          replace hy := mkHid hy
          have hmx : max (x : Int) (y : Int) = ((max x y : Nat) : Int) := by omega
          have Hcl := mkHid hcl
          clear hrow hb hq k1 k2
          go_wp2
          refine wp_region_any (by kernel_rfl) ?_
          refine wpAny_take (i := 0) (v := .slice (some ⟨G, 0, none⟩) F.length F.length) rfl (by kernel_rfl) (by kernel_rfl) (by kernel_rfl) (fun _ _ _ h => h) (Or.inl ⟨by rfl, ?_⟩) ?_
          · intro w
            go_simp
            all_goals first | done | omega | (intro h; exfalso; omega)
          go_simp
          refine wpAny_take (i := 1) (v := .int .i64 i) rfl (by kernel_rfl) (by kernel_rfl) (by kernel_rfl) (fun _ _ _ h => h) (Or.inl ⟨by rfl, ?_⟩) ?_
          · intro w
            go_simp
            all_goals first | done | omega | (intro h; exfalso; omega)
          go_simp
          refine wpAny_take (i := 2) (v := .slice (some ⟨G, 0, none⟩) F.length F.length) rfl (by kernel_rfl) (by kernel_rfl) (by kernel_rfl) (fun _ _ _ h => h) (Or.inl ⟨by rfl, ?_⟩) ?_
          · intro w
            go_simp
            all_goals first | done | omega | (intro h; exfalso; omega)
          go_simp
          refine wpAny_take (i := 3) (v := .int .i64 i) rfl (by kernel_rfl) (by kernel_rfl) (by kernel_rfl) (fun _ _ _ h => h) (Or.inl ⟨by rfl, ?_⟩) ?_
          · intro w
            go_simp
            all_goals first | done | omega | (intro h; exfalso; omega)
          go_simp
          refine wpAny_take (i := 4) (v := .pointer (some ⟨G, i, none⟩)) rfl (by kernel_rfl) (by kernel_rfl) (by kernel_rfl) (fun _ _ _ h => h) (Or.inl ⟨by rfl, ?_⟩) ?_
          · intro w
            go_simp
            all_goals first | done | omega | (intro h; exfalso; omega)
          go_simp
          refine wpAny_take (i := 6) (v := .slice (some ⟨G, 0, none⟩) F.length F.length) rfl (by kernel_rfl) (by kernel_rfl) (by kernel_rfl) (fun _ _ _ h => h) (Or.inl ⟨by rfl, ?_⟩) ?_
          · intro w
            go_simp
            all_goals first | done | omega | (intro h; exfalso; omega)
          go_simp
          refine wpAny_take (i := 7) (v := .int .i64 q) rfl (by kernel_rfl) (by kernel_rfl) (by kernel_rfl) (fun _ _ _ h => h) (Or.inl ⟨by rfl, ?_⟩) ?_
          · intro w
            go_simp
            all_goals first | done | omega | (intro h; exfalso; omega)
          go_simp
          refine wpAny_take (i := 8) (v := .pointer (some ⟨G, q, none⟩)) rfl (by kernel_rfl) (by kernel_rfl) (by kernel_rfl) (fun _ _ _ h => h) (Or.inl ⟨by rfl, ?_⟩) ?_
          · intro w
            go_simp
            all_goals first | done | omega | (intro h; exfalso; omega)
          go_simp
          refine wpAny_ready (rs := [5, 9]) (by kernel_rfl) (by simp) ?_
          refine AllReady.cons rfl (fun K hK => ?_) (AllReady.cons rfl (fun K hK => ?_) AllReady.nil)
          · go_simp
            refine hK _ _ ?_
            clear hK K
            go_simp
            refine wpAny_ready (rs := [9]) (by kernel_rfl) (by simp) ?_
            refine AllReady.cons rfl (fun K hK => ?_) AllReady.nil
            go_simp
            refine hK _ _ ?_
            clear hK K
            go_simp
            refine wpAny_take (i := 10) (v := .int .i64 ((max (x : Nat) y : Nat) : Int)) rfl (by kernel_rfl) (by kernel_rfl) (by kernel_rfl) (fun _ _ _ h => h) (Or.inl ⟨by rfl, ?_⟩) ?_
            · intro w
              go_simp
              all_goals first | done | omega | (intro h; exfalso; omega)
            go_simp
            refine wpAny_take (i := 11) (v := .pointer (some ⟨G, i, none⟩)) rfl (by kernel_rfl) (by kernel_rfl) (by kernel_rfl) (fun _ _ _ h => h) (Or.inl ⟨by rfl, ?_⟩) ?_
            · intro w
              go_simp
              all_goals first | done | omega | (intro h; exfalso; omega)
            go_simp
            refine wpAny_ready (rs := [12]) (by kernel_rfl) (by simp) ?_
            refine AllReady.cons rfl (fun K hK => ?_) AllReady.nil
            go_simp
            refine hK _ _ ?_
            clear hK K
            go_simp
            refine wpAny_done (by kernel_rfl) ?_ _
            go_wp2
            go_roundw
            case rel =>
              refine ⟨c + 1, fun j => if j = i then max x y else d' j, Nat.succ_le_of_lt Hcl.out, by go_num, (hrow1.out _).congr (fun j _ => by show (if j = i then Value.int .i64 _ else Value.int .i64 (d' j)) = Value.int .i64 _; split <;> rename_i h <;> simp [h]), ⟨fun j hj => by show (if j = i then _ else _) = _; rw [if_neg hj]; exact hd'.out.1 j hj, ?_⟩, hb1.out _⟩
              show (if i = i then _ else _) = _
              rw [if_pos rfl, hst.out, Tr.mx_snoc, Int.toNat_natCast, ← hx.out, hd'.out.2, ← hd.out.1 q hqi, ← hy.out, hd'.out.1 q (by omega)]
            case measure => have := Hcl.out; simp [Lib.intOf]; omega
          · go_simp
            refine hK _ _ ?_
            clear hK K
            go_simp
            refine wpAny_ready (rs := [5]) (by kernel_rfl) (by simp) ?_
            refine AllReady.cons rfl (fun K hK => ?_) AllReady.nil
            go_simp
            refine hK _ _ ?_
            clear hK K
            go_simp
            refine wpAny_take (i := 10) (v := .int .i64 ((max (x : Nat) y : Nat) : Int)) rfl (by kernel_rfl) (by kernel_rfl) (by kernel_rfl) (fun _ _ _ h => h) (Or.inl ⟨by rfl, ?_⟩) ?_
            · intro w
              go_simp
              all_goals first | done | omega | (intro h; exfalso; omega)
            go_simp
            refine wpAny_take (i := 11) (v := .pointer (some ⟨G, i, none⟩)) rfl (by kernel_rfl) (by kernel_rfl) (by kernel_rfl) (fun _ _ _ h => h) (Or.inl ⟨by rfl, ?_⟩) ?_
            · intro w
              go_simp
              all_goals first | done | omega | (intro h; exfalso; omega)
            go_simp
            refine wpAny_ready (rs := [12]) (by kernel_rfl) (by simp) ?_
            refine AllReady.cons rfl (fun K hK => ?_) AllReady.nil
            go_simp
            refine hK _ _ ?_
            clear hK K
            go_simp
            refine wpAny_done (by kernel_rfl) ?_ _
            go_wp2
            go_roundw
            case rel =>
              refine ⟨c + 1, fun j => if j = i then max x y else d' j, Nat.succ_le_of_lt Hcl.out, by go_num, (hrow1.out _).congr (fun j _ => by show (if j = i then Value.int .i64 _ else Value.int .i64 (d' j)) = Value.int .i64 _; split <;> rename_i h <;> simp [h]), ⟨fun j hj => by show (if j = i then _ else _) = _; rw [if_neg hj]; exact hd'.out.1 j hj, ?_⟩, hb1.out _⟩
              show (if i = i then _ else _) = _
              rw [if_pos rfl, hst.out, Tr.mx_snoc, Int.toNat_natCast, ← hx.out, hd'.out.2, ← hd.out.1 q hqi, ← hy.out, hd'.out.1 q (by omega)]
            case measure => have := Hcl.out; simp [Lib.intOf]; omega
        · have he : Hid (n.kids.take c = n.kids) := List.take_of_length_le (by omega)
          have r1 := hrow.cell (i := i) hlt
          have z1 := hrow.frozen i
          have hrow1 := mkHid (fun v => hrow.set i v)
          have hb1 := mkHid (fun v => hb.setCell (p := ⟨G, i, none⟩) (Nat.le_refl _) v)
          obtain ⟨x, hx⟩ : ∃ x, d' i = x := ⟨_, rfl⟩
          simp only [hx] at r1
          have hxl : x ≤ 1000000 := by
            have h1 : Tr.mx (Tr.depTo (Fn.kids F) i) n.kids ≤ i := (Tr.mx_le _ _ _).2 (fun k _ => Tr.depTo_le (Fn.kids F) i k.toNat)
            rw [← he.out, ← hd'.out.2, hx] at h1
            omega
          replace hx := mkHid hx
          clear hrow hb
          go_wp2
          go_roundw
          case rel =>
            refine ⟨i + 1, fun j => if j = i then x + 1 else d' j, by omega, by go_num, (hrow1.out _).congr (fun j _ => by show (if j = i then Value.int .i64 _ else Value.int .i64 (d' j)) = Value.int .i64 _; split <;> rename_i h <;> simp [h]), ⟨fun j hj => ?_, fun j hj => ?_⟩, hb1.out _⟩
            · show (if j = i then _ else _) = _
              unfold Tr.depTo
              by_cases hji : j = i
              · rw [if_pos hji, if_pos hji, ← hx.out, hd'.out.2, he.out, hkids.out]
              · rw [if_neg hji, if_neg hji, hd'.out.1 j hji, hd.out.1 j (by omega)]
            · show (if j = i then _ else _) = _
              rw [if_neg (by omega), hd'.out.1 j (by omega), hd.out.2 j (by omega)]
          case measure => simp [Lib.intOf]; omega
    · obtain rfl : i = F.length := by omega
      have r1 := hrow.cell (i := F.length - 1) (by omega)
      have hz : Hid (d (F.length - 1) = Tr.depTo (Fn.kids F) F.length (F.length - 1)) := hd.out.1 _ (by omega)
      obtain ⟨m, hm⟩ : ∃ m, F.length = m + 1 := ⟨F.length - 1, by omega⟩
      rw [show F.length - 1 = m by omega] at r1 hz
      have hmI : (F.length : Int) - 1 = (m : Int) := by omega
      have hml : m < F.length := by omega
      have hme : Hid (F.length - 1 = m) := by show _ = _; omega
      replace hm := mkHid hm
      clear hrow hd
      go_wp2
      go_ret
      rw [hme.out, ← hz.out, hG]
      exact ⟨rfl, hb⟩
end Go.Proofs.YtlphojaeaogehaaGreatDoor
