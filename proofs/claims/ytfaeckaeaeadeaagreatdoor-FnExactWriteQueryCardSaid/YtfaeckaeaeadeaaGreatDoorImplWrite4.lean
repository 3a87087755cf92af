
/- The program's wordsOfNode. (By tools/gen/implwords.py.) -/

/- The program's wordsOfNode, every kind; the words joined. (By tools/gen/implwrite4.py.) -/
import Derived.Test.YtfaeckaeaeadeaaGreatDoorImplWrite2
import Derived.Test.YtfaeckaeaeadeaaGreatDoorImplWriteRanges
set_option linter.unusedVariables false
namespace Go.Proofs.YtfaeckaeaeadeaaGreatDoor
open Go.RowKit Go.Lib Go.Maps
/-- An append of a list of texts, or of nothing. -/
theorem wp_appL {w : World} {ops : Array Oper} {rest : List Oper} {o : Oper} {a : Act} {Q : Exit → Act → World → Prop} (hgd : o.guard = none) (s x : Operand)
    (ho : o.op = .call { callee := .builtin .append, args := #[s, x], argTypes := #[40, 40] })
    (B B2 : Nat) (v kv : Value) (C K : List ByteArray) (hs : a.eval s = v) (hown : OwnX B v C w) (hx : a.eval x = kv) (hK : OwnX B2 kv K w) (hlen : C.length + K.length ≤ 1000000) (hB : B ≤ w.heap.size)
    (h : ∀ v' w', OwnX B v' (C ++ K) w' → w.grownBy w' v.ownBlock → wpList Tryz.prog ops Q rest (a.put o.dst v') w') : wpList Tryz.prog ops Q (o :: rest) a w := by
  obtain ⟨i0, hi0, hz0, hz1, hz2⟩ := info_parts Tryz.info9X
  have hKc := hK
  rcases hK.2 with ⟨rfl, h0⟩ | ⟨g, cap, cur, rfl, h2⟩
  · have hK0 : K = [] := List.length_eq_zero_iff.1 h0
    subst hK0
    refine wpList_append_own_none hgd s x 40 ho B 9 i0 1 Tryz.underlying40 hi0 v C.length (strCellsX C) hs hown hx ?_
    refine h v w (by rw [List.append_nil]; exact hown) ⟨rfl, rfl, rfl, Nat.le_refl _, fun _ _ _ => rfl⟩
  · refine wpList_append_own _ hgd s x 40 ho B 9 i0 (.string ⟨#[]⟩) 1 16 Tryz.underlying40 hi0 hz0 hz1 hz2 rfl (by decide) v C.length (strCellsX C) hs hown ⟨g, 0, none⟩ K.length cap (strCellsX K) hx
      (by unfold strCellsX; rw [List.length_map, Nat.mul_one]) ?_ ?_ (by unfold maxLen; omega) (by omega) hB ?_
    · intro j u hj
      exact World.ownsRow.cells hKc (g := g) rfl j u hj
    · intro u hu
      simp only [strCellsX, List.mem_map] at hu
      obtain ⟨t, -, rfl⟩ := hu
      rfl
    · intro v' w' h1 h3 _
      refine h v' w' ?_ h3
      unfold OwnX strCellsX
      rw [List.map_append, List.length_append]
      exact h1
theorem keep_apart {w0 w2 : World} {B B1 : Nat} {kv v : Value} {K C : List ByteArray} (hK0 : OwnX B kv K w0) (hK2 : OwnX B kv K w2) (hv : OwnX B1 v C w2) (hB : w0.heap.size ≤ B1) (o : Obj) (w3 : World) (hg : (w2.alloc o).grownBy w3 v.ownBlock) : OwnX B kv K w3 := by
  refine World.ownsRow.kept (World.ownsRow.alloc hK2 o) hg ?_
  cases hk : kv.ownBlock with
  | none => exact .inl rfl
  | some g =>
    right
    intro e
    have h1 := (World.ownsRow.lt hK0 g hk).2
    have h2 := (World.ownsRow.lt hv g e.symm).1
    omega
theorem keys_len (k : Int) (nm : List UInt8) : ((Qw.keys k nm).map txB).length ≤ 2 := by
  unfold Qw.keys
  split <;> simp
set_option maxHeartbeats 4000000 in
set_option maxRecDepth 20000 in
theorem wd1 (nm tx : ByteArray) (nu : Int) (us : List GRange) (ks : List Int) (a4 : Option Addr) (e4 lo : Nat) (v5 kv : Value) (B : Nat) (K : List ByteArray) (w : World) (hQ : QTab w) (hM : MTab w) (hP : PTab w) (hK : OwnX B kv K w) (hKl : K.length ≤ 100) (hU : GRangesL lo w.heap.size w a4 us) :
    Calls Tryz.prog 15 #[.agg #[.int .i64 1, .string nm, .string tx, .int .i64 nu, .slice a4 us.length e4, v5], kv] w (RetX 0 ((Qw.keys 1 nm.data.toList).map txB ++ K) w) := by
  obtain ⟨V, hV⟩ : ∃ V, V = w.alloc (.cells #[.int .i64 1, .string nm, .string tx, .int .i64 nu, .slice a4 us.length e4, v5] 38) := ⟨_, rfl⟩
  have hbV : Below w.heap.size w V := by rw [hV]; exact (Below.refl _ _).alloc (Nat.le_refl _) _
  have c0 : V.cell? ⟨w.heap.size, 0, none⟩ = some (.int .i64 1) := by rw [hV]; simp
  have c1 : V.cell? ⟨w.heap.size, 1, none⟩ = some (.string nm) := by rw [hV]; simp
  have c2 : V.cell? ⟨w.heap.size, 2, none⟩ = some (.string tx) := by rw [hV]; simp
  have c3 : V.cell? ⟨w.heap.size, 3, none⟩ = some (.int .i64 nu) := by rw [hV]; simp
  have c4 : V.cell? ⟨w.heap.size, 4, none⟩ = some (.slice a4 us.length e4) := by rw [hV]; simp
  have c5 : V.cell? ⟨w.heap.size, 5, none⟩ = some v5 := by rw [hV]; simp
  have hgl : w.heap.size < V.heap.size := by rw [hV]; simp
  have cW := mkHid (implKeyWords ⟨1, nm, tx, nu, us, ks⟩ (.slice a4 us.length e4) v5 V (hQ.on hbV))
  unfold GQueryNodeV at cW
  dsimp only at cW
  have hkl := keys_len 1 nm.data.toList
  generalize (Qw.keys 1 nm.data.toList).map txB = C at *
  have HK := mkHid hK
  replace hV := mkHid hV
  clear hK hQ
  obtain ⟨ko, kc, rfl⟩ := HK.out.shape
  go_enter Tryz.func15, Tryz.ntmps15
  go_wp2_with fail
  rw [← hV.out]
  refine cW.out.mono ?_
  rintro e w1 ⟨v1, rfl, hown, hb1⟩
  obtain ⟨vo, vc, rfl⟩ := hown.shape
  have r0 := (hb1.cell (p := ⟨w.heap.size, 0, none⟩) hgl).trans c0
  have r2 := (hb1.cell (p := ⟨w.heap.size, 2, none⟩) hgl).trans c2
  have r3 := (hb1.cell (p := ⟨w.heap.size, 3, none⟩) hgl).trans c3
  have r4 := (hb1.cell (p := ⟨w.heap.size, 4, none⟩) hgl).trans c4
  have hbw := hbV.trans (hb1.mono hbV.size)
  have hK1 := HK.out.below hbw
  have hs1 := hb1.size
  have hsV := hbV.size
  clear c0 c1 c2 c3 c4 c5 cW
  go_wp2_with (at_builtin; go_must (refine wp_appL rfl _ _ rfl V.heap.size B (.slice vo C.length vc) (.slice ko K.length kc) C K rfl hown rfl hK1 (by omega) (by omega) ?_; intro v' w' hown' hg'))
  have hb3 : Below w.heap.size w w' := hbw.grown hg' (by omega) (fun k hk => by have := (World.ownsRow.lt hown k hk).1; omega)
  go_wp2
  go_ret
  exact ⟨_, rfl, hown'.zero, hb3⟩
set_option maxHeartbeats 4000000 in
set_option maxRecDepth 20000 in
theorem wd2 (nm tx : ByteArray) (nu : Int) (us : List GRange) (ks : List Int) (a4 : Option Addr) (e4 lo : Nat) (v5 kv : Value) (B : Nat) (K : List ByteArray) (w : World) (hQ : QTab w) (hM : MTab w) (hP : PTab w) (hK : OwnX B kv K w) (hKl : K.length ≤ 100) (hU : GRangesL lo w.heap.size w a4 us) :
    Calls Tryz.prog 15 #[.agg #[.int .i64 2, .string nm, .string tx, .int .i64 nu, .slice a4 us.length e4, v5], kv] w (RetX 0 ((Qw.keys 2 nm.data.toList).map txB ++ K) w) := by
  obtain ⟨V, hV⟩ : ∃ V, V = w.alloc (.cells #[.int .i64 2, .string nm, .string tx, .int .i64 nu, .slice a4 us.length e4, v5] 38) := ⟨_, rfl⟩
  have hbV : Below w.heap.size w V := by rw [hV]; exact (Below.refl _ _).alloc (Nat.le_refl _) _
  have c0 : V.cell? ⟨w.heap.size, 0, none⟩ = some (.int .i64 2) := by rw [hV]; simp
  have c1 : V.cell? ⟨w.heap.size, 1, none⟩ = some (.string nm) := by rw [hV]; simp
  have c2 : V.cell? ⟨w.heap.size, 2, none⟩ = some (.string tx) := by rw [hV]; simp
  have c3 : V.cell? ⟨w.heap.size, 3, none⟩ = some (.int .i64 nu) := by rw [hV]; simp
  have c4 : V.cell? ⟨w.heap.size, 4, none⟩ = some (.slice a4 us.length e4) := by rw [hV]; simp
  have c5 : V.cell? ⟨w.heap.size, 5, none⟩ = some v5 := by rw [hV]; simp
  have hgl : w.heap.size < V.heap.size := by rw [hV]; simp
  have cW := mkHid (implKeyWords ⟨2, nm, tx, nu, us, ks⟩ (.slice a4 us.length e4) v5 V (hQ.on hbV))
  unfold GQueryNodeV at cW
  dsimp only at cW
  have hkl := keys_len 2 nm.data.toList
  generalize (Qw.keys 2 nm.data.toList).map txB = C at *
  have HK := mkHid hK
  replace hV := mkHid hV
  clear hK hQ
  obtain ⟨ko, kc, rfl⟩ := HK.out.shape
  go_enter Tryz.func15, Tryz.ntmps15
  go_wp2_with fail
  rw [← hV.out]
  refine cW.out.mono ?_
  rintro e w1 ⟨v1, rfl, hown, hb1⟩
  obtain ⟨vo, vc, rfl⟩ := hown.shape
  have r0 := (hb1.cell (p := ⟨w.heap.size, 0, none⟩) hgl).trans c0
  have r2 := (hb1.cell (p := ⟨w.heap.size, 2, none⟩) hgl).trans c2
  have r3 := (hb1.cell (p := ⟨w.heap.size, 3, none⟩) hgl).trans c3
  have r4 := (hb1.cell (p := ⟨w.heap.size, 4, none⟩) hgl).trans c4
  have hbw := hbV.trans (hb1.mono hbV.size)
  have hK1 := HK.out.below hbw
  have hs1 := hb1.size
  have hsV := hbV.size
  clear c0 c1 c2 c3 c4 c5 cW
  go_wp2_with (at_builtin; go_must (refine wp_appL rfl _ _ rfl V.heap.size B (.slice vo C.length vc) (.slice ko K.length kc) C K rfl hown rfl hK1 (by omega) (by omega) ?_; intro v' w' hown' hg'))
  have hb3 : Below w.heap.size w w' := hbw.grown hg' (by omega) (fun k hk => by have := (World.ownsRow.lt hown k hk).1; omega)
  go_wp2
  go_ret
  exact ⟨_, rfl, hown'.zero, hb3⟩
set_option maxHeartbeats 4000000 in
set_option maxRecDepth 20000 in
theorem wd3 (nm tx : ByteArray) (nu : Int) (us : List GRange) (ks : List Int) (a4 : Option Addr) (e4 lo : Nat) (v5 kv : Value) (B : Nat) (K : List ByteArray) (w : World) (hQ : QTab w) (hM : MTab w) (hP : PTab w) (hK : OwnX B kv K w) (hKl : K.length ≤ 100) (hU : GRangesL lo w.heap.size w a4 us) :
    Calls Tryz.prog 15 #[.agg #[.int .i64 3, .string nm, .string tx, .int .i64 nu, .slice a4 us.length e4, v5], kv] w (RetX 0 ((Qw.keys 3 nm.data.toList).map txB ++ K) w) := by
  obtain ⟨V, hV⟩ : ∃ V, V = w.alloc (.cells #[.int .i64 3, .string nm, .string tx, .int .i64 nu, .slice a4 us.length e4, v5] 38) := ⟨_, rfl⟩
  have hbV : Below w.heap.size w V := by rw [hV]; exact (Below.refl _ _).alloc (Nat.le_refl _) _
  have c0 : V.cell? ⟨w.heap.size, 0, none⟩ = some (.int .i64 3) := by rw [hV]; simp
  have c1 : V.cell? ⟨w.heap.size, 1, none⟩ = some (.string nm) := by rw [hV]; simp
  have c2 : V.cell? ⟨w.heap.size, 2, none⟩ = some (.string tx) := by rw [hV]; simp
  have c3 : V.cell? ⟨w.heap.size, 3, none⟩ = some (.int .i64 nu) := by rw [hV]; simp
  have c4 : V.cell? ⟨w.heap.size, 4, none⟩ = some (.slice a4 us.length e4) := by rw [hV]; simp
  have c5 : V.cell? ⟨w.heap.size, 5, none⟩ = some v5 := by rw [hV]; simp
  have hgl : w.heap.size < V.heap.size := by rw [hV]; simp
  have cW := mkHid (implKeyWords ⟨3, nm, tx, nu, us, ks⟩ (.slice a4 us.length e4) v5 V (hQ.on hbV))
  unfold GQueryNodeV at cW
  dsimp only at cW
  have hkl := keys_len 3 nm.data.toList
  generalize (Qw.keys 3 nm.data.toList).map txB = C at *
  have HK := mkHid hK
  replace hV := mkHid hV
  clear hK hQ
  obtain ⟨ko, kc, rfl⟩ := HK.out.shape
  go_enter Tryz.func15, Tryz.ntmps15
  go_wp2_with fail
  rw [← hV.out]
  refine cW.out.mono ?_
  rintro e w1 ⟨v1, rfl, hown, hb1⟩
  obtain ⟨vo, vc, rfl⟩ := hown.shape
  have r0 := (hb1.cell (p := ⟨w.heap.size, 0, none⟩) hgl).trans c0
  have r2 := (hb1.cell (p := ⟨w.heap.size, 2, none⟩) hgl).trans c2
  have r3 := (hb1.cell (p := ⟨w.heap.size, 3, none⟩) hgl).trans c3
  have r4 := (hb1.cell (p := ⟨w.heap.size, 4, none⟩) hgl).trans c4
  have hbw := hbV.trans (hb1.mono hbV.size)
  have hK1 := HK.out.below hbw
  have hs1 := hb1.size
  have hsV := hbV.size
  clear c0 c1 c2 c3 c4 c5 cW
  go_wp2_with (at_builtin; go_must (refine wp_appL rfl _ _ rfl V.heap.size B (.slice vo C.length vc) (.slice ko K.length kc) C K rfl hown rfl hK1 (by omega) (by omega) ?_; intro v' w' hown' hg'))
  have hb3 : Below w.heap.size w w' := hbw.grown hg' (by omega) (fun k hk => by have := (World.ownsRow.lt hown k hk).1; omega)
  go_wp2
  go_ret
  exact ⟨_, rfl, hown'.zero, hb3⟩
set_option maxHeartbeats 4000000 in
set_option maxRecDepth 20000 in
theorem wd14 (nm tx : ByteArray) (nu : Int) (us : List GRange) (ks : List Int) (a4 : Option Addr) (e4 lo : Nat) (v5 kv : Value) (B : Nat) (K : List ByteArray) (w : World) (hQ : QTab w) (hM : MTab w) (hP : PTab w) (hK : OwnX B kv K w) (hKl : K.length ≤ 100) (hU : GRangesL lo w.heap.size w a4 us) :
    Calls Tryz.prog 15 #[.agg #[.int .i64 14, .string nm, .string tx, .int .i64 nu, .slice a4 us.length e4, v5], kv] w (RetX 0 ((Qw.keys 14 nm.data.toList).map txB ++ K) w) := by
  obtain ⟨V, hV⟩ : ∃ V, V = w.alloc (.cells #[.int .i64 14, .string nm, .string tx, .int .i64 nu, .slice a4 us.length e4, v5] 38) := ⟨_, rfl⟩
  have hbV : Below w.heap.size w V := by rw [hV]; exact (Below.refl _ _).alloc (Nat.le_refl _) _
  have c0 : V.cell? ⟨w.heap.size, 0, none⟩ = some (.int .i64 14) := by rw [hV]; simp
  have c1 : V.cell? ⟨w.heap.size, 1, none⟩ = some (.string nm) := by rw [hV]; simp
  have c2 : V.cell? ⟨w.heap.size, 2, none⟩ = some (.string tx) := by rw [hV]; simp
  have c3 : V.cell? ⟨w.heap.size, 3, none⟩ = some (.int .i64 nu) := by rw [hV]; simp
  have c4 : V.cell? ⟨w.heap.size, 4, none⟩ = some (.slice a4 us.length e4) := by rw [hV]; simp
  have c5 : V.cell? ⟨w.heap.size, 5, none⟩ = some v5 := by rw [hV]; simp
  have hgl : w.heap.size < V.heap.size := by rw [hV]; simp
  have cW := mkHid (implKeyWords ⟨14, nm, tx, nu, us, ks⟩ (.slice a4 us.length e4) v5 V (hQ.on hbV))
  unfold GQueryNodeV at cW
  dsimp only at cW
  have hkl := keys_len 14 nm.data.toList
  generalize (Qw.keys 14 nm.data.toList).map txB = C at *
  have HK := mkHid hK
  replace hV := mkHid hV
  clear hK hQ
  obtain ⟨ko, kc, rfl⟩ := HK.out.shape
  go_enter Tryz.func15, Tryz.ntmps15
  go_wp2_with fail
  rw [← hV.out]
  refine cW.out.mono ?_
  rintro e w1 ⟨v1, rfl, hown, hb1⟩
  obtain ⟨vo, vc, rfl⟩ := hown.shape
  have r0 := (hb1.cell (p := ⟨w.heap.size, 0, none⟩) hgl).trans c0
  have r2 := (hb1.cell (p := ⟨w.heap.size, 2, none⟩) hgl).trans c2
  have r3 := (hb1.cell (p := ⟨w.heap.size, 3, none⟩) hgl).trans c3
  have r4 := (hb1.cell (p := ⟨w.heap.size, 4, none⟩) hgl).trans c4
  have hbw := hbV.trans (hb1.mono hbV.size)
  have hK1 := HK.out.below hbw
  have hs1 := hb1.size
  have hsV := hbV.size
  clear c0 c1 c2 c3 c4 c5 cW
  go_wp2_with (at_builtin; go_must (refine wp_appL rfl _ _ rfl V.heap.size B (.slice vo C.length vc) (.slice ko K.length kc) C K rfl hown rfl hK1 (by omega) (by omega) ?_; intro v' w' hown' hg'))
  have hb3 : Below w.heap.size w w' := hbw.grown hg' (by omega) (fun k hk => by have := (World.ownsRow.lt hown k hk).1; omega)
  go_wp2
  go_ret
  exact ⟨_, rfl, hown'.zero, hb3⟩
set_option maxHeartbeats 4000000 in
set_option maxRecDepth 20000 in
theorem wd15 (nm tx : ByteArray) (nu : Int) (us : List GRange) (ks : List Int) (a4 : Option Addr) (e4 lo : Nat) (v5 kv : Value) (B : Nat) (K : List ByteArray) (w : World) (hQ : QTab w) (hM : MTab w) (hP : PTab w) (hK : OwnX B kv K w) (hKl : K.length ≤ 100) (hU : GRangesL lo w.heap.size w a4 us) :
    Calls Tryz.prog 15 #[.agg #[.int .i64 15, .string nm, .string tx, .int .i64 nu, .slice a4 us.length e4, v5], kv] w (RetX 0 ((Qw.keys 15 nm.data.toList).map txB ++ K) w) := by
  obtain ⟨V, hV⟩ : ∃ V, V = w.alloc (.cells #[.int .i64 15, .string nm, .string tx, .int .i64 nu, .slice a4 us.length e4, v5] 38) := ⟨_, rfl⟩
  have hbV : Below w.heap.size w V := by rw [hV]; exact (Below.refl _ _).alloc (Nat.le_refl _) _
  have c0 : V.cell? ⟨w.heap.size, 0, none⟩ = some (.int .i64 15) := by rw [hV]; simp
  have c1 : V.cell? ⟨w.heap.size, 1, none⟩ = some (.string nm) := by rw [hV]; simp
  have c2 : V.cell? ⟨w.heap.size, 2, none⟩ = some (.string tx) := by rw [hV]; simp
  have c3 : V.cell? ⟨w.heap.size, 3, none⟩ = some (.int .i64 nu) := by rw [hV]; simp
  have c4 : V.cell? ⟨w.heap.size, 4, none⟩ = some (.slice a4 us.length e4) := by rw [hV]; simp
  have c5 : V.cell? ⟨w.heap.size, 5, none⟩ = some v5 := by rw [hV]; simp
  have hgl : w.heap.size < V.heap.size := by rw [hV]; simp
  have cW := mkHid (implKeyWords ⟨15, nm, tx, nu, us, ks⟩ (.slice a4 us.length e4) v5 V (hQ.on hbV))
  unfold GQueryNodeV at cW
  dsimp only at cW
  have hkl := keys_len 15 nm.data.toList
  generalize (Qw.keys 15 nm.data.toList).map txB = C at *
  have HK := mkHid hK
  replace hV := mkHid hV
  clear hK hQ
  obtain ⟨ko, kc, rfl⟩ := HK.out.shape
  go_enter Tryz.func15, Tryz.ntmps15
  go_wp2_with fail
  rw [← hV.out]
  refine cW.out.mono ?_
  rintro e w1 ⟨v1, rfl, hown, hb1⟩
  obtain ⟨vo, vc, rfl⟩ := hown.shape
  have r0 := (hb1.cell (p := ⟨w.heap.size, 0, none⟩) hgl).trans c0
  have r2 := (hb1.cell (p := ⟨w.heap.size, 2, none⟩) hgl).trans c2
  have r3 := (hb1.cell (p := ⟨w.heap.size, 3, none⟩) hgl).trans c3
  have r4 := (hb1.cell (p := ⟨w.heap.size, 4, none⟩) hgl).trans c4
  have hbw := hbV.trans (hb1.mono hbV.size)
  have hK1 := HK.out.below hbw
  have hs1 := hb1.size
  have hsV := hbV.size
  clear c0 c1 c2 c3 c4 c5 cW
  go_wp2_with (at_builtin; go_must (refine wp_appL rfl _ _ rfl V.heap.size B (.slice vo C.length vc) (.slice ko K.length kc) C K rfl hown rfl hK1 (by omega) (by omega) ?_; intro v' w' hown' hg'))
  have hb3 : Below w.heap.size w w' := hbw.grown hg' (by omega) (fun k hk => by have := (World.ownsRow.lt hown k hk).1; omega)
  go_wp2
  go_ret
  exact ⟨_, rfl, hown'.zero, hb3⟩
set_option maxHeartbeats 4000000 in
set_option maxRecDepth 20000 in
theorem wd4 (nm tx : ByteArray) (nu : Int) (us : List GRange) (ks : List Int) (a4 : Option Addr) (e4 lo : Nat) (v5 kv : Value) (B : Nat) (K : List ByteArray) (w : World) (hQ : QTab w) (hM : MTab w) (hP : PTab w) (hK : OwnX B kv K w) (hKl : K.length ≤ 100) (hU : GRangesL lo w.heap.size w a4 us) (hs : tx.size ≤ 200) :
    Calls Tryz.prog 15 #[.agg #[.int .i64 4, .string nm, .string tx, .int .i64 nu, .slice a4 us.length e4, v5], kv] w (RetX 0 ((Qw.keys 4 nm.data.toList).map txB ++ [txB (Qw.quote tx)] ++ K) w) := by
  obtain ⟨V, hV⟩ : ∃ V, V = w.alloc (.cells #[.int .i64 4, .string nm, .string tx, .int .i64 nu, .slice a4 us.length e4, v5] 38) := ⟨_, rfl⟩
  have hbV : Below w.heap.size w V := by rw [hV]; exact (Below.refl _ _).alloc (Nat.le_refl _) _
  have c0 : V.cell? ⟨w.heap.size, 0, none⟩ = some (.int .i64 4) := by rw [hV]; simp
  have c1 : V.cell? ⟨w.heap.size, 1, none⟩ = some (.string nm) := by rw [hV]; simp
  have c2 : V.cell? ⟨w.heap.size, 2, none⟩ = some (.string tx) := by rw [hV]; simp
  have c3 : V.cell? ⟨w.heap.size, 3, none⟩ = some (.int .i64 nu) := by rw [hV]; simp
  have c4 : V.cell? ⟨w.heap.size, 4, none⟩ = some (.slice a4 us.length e4) := by rw [hV]; simp
  have c5 : V.cell? ⟨w.heap.size, 5, none⟩ = some v5 := by rw [hV]; simp
  have hgl : w.heap.size < V.heap.size := by rw [hV]; simp
  have cQ : Hid (∀ W : World, Below w.heap.size w W → Calls Tryz.prog 35 #[.string tx] W fun e w' => e = .returned (.string (txB (Qw.quote tx))) ∧ Below W.heap.size W w') := fun W _ => implQuotes tx W (by omega)
  generalize txB (Qw.quote tx) = t at *
  have cW := mkHid (implKeyWords ⟨4, nm, tx, nu, us, ks⟩ (.slice a4 us.length e4) v5 V (hQ.on hbV))
  unfold GQueryNodeV at cW
  dsimp only at cW
  have hkl := keys_len 4 nm.data.toList
  generalize (Qw.keys 4 nm.data.toList).map txB = C at *
  have HK := mkHid hK
  replace hV := mkHid hV
  clear hK hQ
  clear hM hP hU
  obtain ⟨ko, kc, rfl⟩ := HK.out.shape
  go_enter Tryz.func15, Tryz.ntmps15
  go_wp2_with fail
  rw [← hV.out]
  refine cW.out.mono ?_
  rintro e w1 ⟨v1, rfl, hown, hb1⟩
  obtain ⟨vo, vc, rfl⟩ := hown.shape
  have r0 := (hb1.cell (p := ⟨w.heap.size, 0, none⟩) hgl).trans c0
  have r2 := (hb1.cell (p := ⟨w.heap.size, 2, none⟩) hgl).trans c2
  have r3 := (hb1.cell (p := ⟨w.heap.size, 3, none⟩) hgl).trans c3
  have r4 := (hb1.cell (p := ⟨w.heap.size, 4, none⟩) hgl).trans c4
  have hbw := hbV.trans (hb1.mono hbV.size)
  have hK1 := HK.out.below hbw
  have hs1 := hb1.size
  have hsV := hbV.size
  clear c0 c1 c2 c3 c4 c5 cW
  have hbw' := mkHid hbw
  go_wp2_with fail
  refine (cQ.out w1 hbw).mono ?_
  rintro e w2 ⟨rfl, hb2⟩
  have hown2 := hown.below hb2
  have hK2 := hK1.below hb2
  have hb4 := hbw.trans (hb2.mono (by omega))
  have hs2 := hb2.size
  clear r0 r2 r3 r4 cQ
  have HK3X : Hid (∀ (v2 : Value) (w3 : World), (w2.alloc (.cells #[.string t] 9)).grownBy w3 (Value.slice vo C.length vc).ownBlock → OwnX B (.slice ko K.length kc) K w3) := fun _ w3 hg => keep_apart HK.out hK2 hown2 hsV _ w3 hg
  go_wp2_with (at_builtin; go_must (first | (refine wp_appX rfl _ _ rfl V.heap.size (.slice vo C.length vc) C rfl hown2 t 1 rfl (by omega) (by omega) ?_; intro v2 w3 hown3 hg3; have hK3 : OwnX B (.slice ko K.length kc) K w3 := HK3X.out v2 w3 hg3; obtain ⟨vo2, vc2, hv2⟩ := hown3.shape; rw [show (C ++ [t]).length = C.length + 1 from by simp] at hv2; subst hv2) | (refine wp_appL rfl _ _ rfl V.heap.size B _ (.slice ko K.length kc) (C ++ [t]) K rfl hown3 rfl hK3 (by simp; omega) (by have := hg3.size; simp at this; omega) ?_; intro v' w' hown' hg')))
  have hb5 : Below w.heap.size w w3 := (hb4.alloc (by omega) _).grown hg3 (by simp; omega) (fun k hk => by have := (World.ownsRow.lt hown2 k hk).1; omega)
  have hb3 : Below w.heap.size w w' := hb5.grown hg' (by have := hg3.size; simp at this; omega) (fun k hk => by have := (World.ownsRow.lt hown3 k hk).1; omega)
  go_wp2
  go_ret
  exact ⟨_, rfl, hown'.zero, hb3⟩
set_option maxHeartbeats 4000000 in
set_option maxRecDepth 20000 in
theorem wd5 (nm tx : ByteArray) (nu : Int) (us : List GRange) (ks : List Int) (a4 : Option Addr) (e4 lo : Nat) (v5 kv : Value) (B : Nat) (K : List ByteArray) (w : World) (hQ : QTab w) (hM : MTab w) (hP : PTab w) (hK : OwnX B kv K w) (hKl : K.length ≤ 100) (hU : GRangesL lo w.heap.size w a4 us) (hs : tx.size ≤ 200) :
    Calls Tryz.prog 15 #[.agg #[.int .i64 5, .string nm, .string tx, .int .i64 nu, .slice a4 us.length e4, v5], kv] w (RetX 0 ((Qw.keys 5 nm.data.toList).map txB ++ [txB (Qw.quote tx)] ++ K) w) := by
  obtain ⟨V, hV⟩ : ∃ V, V = w.alloc (.cells #[.int .i64 5, .string nm, .string tx, .int .i64 nu, .slice a4 us.length e4, v5] 38) := ⟨_, rfl⟩
  have hbV : Below w.heap.size w V := by rw [hV]; exact (Below.refl _ _).alloc (Nat.le_refl _) _
  have c0 : V.cell? ⟨w.heap.size, 0, none⟩ = some (.int .i64 5) := by rw [hV]; simp
  have c1 : V.cell? ⟨w.heap.size, 1, none⟩ = some (.string nm) := by rw [hV]; simp
  have c2 : V.cell? ⟨w.heap.size, 2, none⟩ = some (.string tx) := by rw [hV]; simp
  have c3 : V.cell? ⟨w.heap.size, 3, none⟩ = some (.int .i64 nu) := by rw [hV]; simp
  have c4 : V.cell? ⟨w.heap.size, 4, none⟩ = some (.slice a4 us.length e4) := by rw [hV]; simp
  have c5 : V.cell? ⟨w.heap.size, 5, none⟩ = some v5 := by rw [hV]; simp
  have hgl : w.heap.size < V.heap.size := by rw [hV]; simp
  have cQ : Hid (∀ W : World, Below w.heap.size w W → Calls Tryz.prog 35 #[.string tx] W fun e w' => e = .returned (.string (txB (Qw.quote tx))) ∧ Below W.heap.size W w') := fun W _ => implQuotes tx W (by omega)
  generalize txB (Qw.quote tx) = t at *
  have cW := mkHid (implKeyWords ⟨5, nm, tx, nu, us, ks⟩ (.slice a4 us.length e4) v5 V (hQ.on hbV))
  unfold GQueryNodeV at cW
  dsimp only at cW
  have hkl := keys_len 5 nm.data.toList
  generalize (Qw.keys 5 nm.data.toList).map txB = C at *
  have HK := mkHid hK
  replace hV := mkHid hV
  clear hK hQ
  clear hM hP hU
  obtain ⟨ko, kc, rfl⟩ := HK.out.shape
  go_enter Tryz.func15, Tryz.ntmps15
  go_wp2_with fail
  rw [← hV.out]
  refine cW.out.mono ?_
  rintro e w1 ⟨v1, rfl, hown, hb1⟩
  obtain ⟨vo, vc, rfl⟩ := hown.shape
  have r0 := (hb1.cell (p := ⟨w.heap.size, 0, none⟩) hgl).trans c0
  have r2 := (hb1.cell (p := ⟨w.heap.size, 2, none⟩) hgl).trans c2
  have r3 := (hb1.cell (p := ⟨w.heap.size, 3, none⟩) hgl).trans c3
  have r4 := (hb1.cell (p := ⟨w.heap.size, 4, none⟩) hgl).trans c4
  have hbw := hbV.trans (hb1.mono hbV.size)
  have hK1 := HK.out.below hbw
  have hs1 := hb1.size
  have hsV := hbV.size
  clear c0 c1 c2 c3 c4 c5 cW
  have hbw' := mkHid hbw
  go_wp2_with fail
  refine (cQ.out w1 hbw).mono ?_
  rintro e w2 ⟨rfl, hb2⟩
  have hown2 := hown.below hb2
  have hK2 := hK1.below hb2
  have hb4 := hbw.trans (hb2.mono (by omega))
  have hs2 := hb2.size
  clear r0 r2 r3 r4 cQ
  have HK3X : Hid (∀ (v2 : Value) (w3 : World), (w2.alloc (.cells #[.string t] 9)).grownBy w3 (Value.slice vo C.length vc).ownBlock → OwnX B (.slice ko K.length kc) K w3) := fun _ w3 hg => keep_apart HK.out hK2 hown2 hsV _ w3 hg
  go_wp2_with (at_builtin; go_must (first | (refine wp_appX rfl _ _ rfl V.heap.size (.slice vo C.length vc) C rfl hown2 t 1 rfl (by omega) (by omega) ?_; intro v2 w3 hown3 hg3; have hK3 : OwnX B (.slice ko K.length kc) K w3 := HK3X.out v2 w3 hg3; obtain ⟨vo2, vc2, hv2⟩ := hown3.shape; rw [show (C ++ [t]).length = C.length + 1 from by simp] at hv2; subst hv2) | (refine wp_appL rfl _ _ rfl V.heap.size B _ (.slice ko K.length kc) (C ++ [t]) K rfl hown3 rfl hK3 (by simp; omega) (by have := hg3.size; simp at this; omega) ?_; intro v' w' hown' hg')))
  have hb5 : Below w.heap.size w w3 := (hb4.alloc (by omega) _).grown hg3 (by simp; omega) (fun k hk => by have := (World.ownsRow.lt hown2 k hk).1; omega)
  have hb3 : Below w.heap.size w w' := hb5.grown hg' (by have := hg3.size; simp at this; omega) (fun k hk => by have := (World.ownsRow.lt hown3 k hk).1; omega)
  go_wp2
  go_ret
  exact ⟨_, rfl, hown'.zero, hb3⟩
set_option maxHeartbeats 4000000 in
set_option maxRecDepth 20000 in
theorem wd6 (nm tx : ByteArray) (nu : Int) (us : List GRange) (ks : List Int) (a4 : Option Addr) (e4 lo : Nat) (v5 kv : Value) (B : Nat) (K : List ByteArray) (w : World) (hQ : QTab w) (hM : MTab w) (hP : PTab w) (hK : OwnX B kv K w) (hKl : K.length ≤ 100) (hU : GRangesL lo w.heap.size w a4 us) (hs : tx.size ≤ 200) :
    Calls Tryz.prog 15 #[.agg #[.int .i64 6, .string nm, .string tx, .int .i64 nu, .slice a4 us.length e4, v5], kv] w (RetX 0 ((Qw.keys 6 nm.data.toList).map txB ++ [txB (Qw.quote tx)] ++ K) w) := by
  obtain ⟨V, hV⟩ : ∃ V, V = w.alloc (.cells #[.int .i64 6, .string nm, .string tx, .int .i64 nu, .slice a4 us.length e4, v5] 38) := ⟨_, rfl⟩
  have hbV : Below w.heap.size w V := by rw [hV]; exact (Below.refl _ _).alloc (Nat.le_refl _) _
  have c0 : V.cell? ⟨w.heap.size, 0, none⟩ = some (.int .i64 6) := by rw [hV]; simp
  have c1 : V.cell? ⟨w.heap.size, 1, none⟩ = some (.string nm) := by rw [hV]; simp
  have c2 : V.cell? ⟨w.heap.size, 2, none⟩ = some (.string tx) := by rw [hV]; simp
  have c3 : V.cell? ⟨w.heap.size, 3, none⟩ = some (.int .i64 nu) := by rw [hV]; simp
  have c4 : V.cell? ⟨w.heap.size, 4, none⟩ = some (.slice a4 us.length e4) := by rw [hV]; simp
  have c5 : V.cell? ⟨w.heap.size, 5, none⟩ = some v5 := by rw [hV]; simp
  have hgl : w.heap.size < V.heap.size := by rw [hV]; simp
  have cQ : Hid (∀ W : World, Below w.heap.size w W → Calls Tryz.prog 35 #[.string tx] W fun e w' => e = .returned (.string (txB (Qw.quote tx))) ∧ Below W.heap.size W w') := fun W _ => implQuotes tx W (by omega)
  generalize txB (Qw.quote tx) = t at *
  have cW := mkHid (implKeyWords ⟨6, nm, tx, nu, us, ks⟩ (.slice a4 us.length e4) v5 V (hQ.on hbV))
  unfold GQueryNodeV at cW
  dsimp only at cW
  have hkl := keys_len 6 nm.data.toList
  generalize (Qw.keys 6 nm.data.toList).map txB = C at *
  have HK := mkHid hK
  replace hV := mkHid hV
  clear hK hQ
  clear hM hP hU
  obtain ⟨ko, kc, rfl⟩ := HK.out.shape
  go_enter Tryz.func15, Tryz.ntmps15
  go_wp2_with fail
  rw [← hV.out]
  refine cW.out.mono ?_
  rintro e w1 ⟨v1, rfl, hown, hb1⟩
  obtain ⟨vo, vc, rfl⟩ := hown.shape
  have r0 := (hb1.cell (p := ⟨w.heap.size, 0, none⟩) hgl).trans c0
  have r2 := (hb1.cell (p := ⟨w.heap.size, 2, none⟩) hgl).trans c2
  have r3 := (hb1.cell (p := ⟨w.heap.size, 3, none⟩) hgl).trans c3
  have r4 := (hb1.cell (p := ⟨w.heap.size, 4, none⟩) hgl).trans c4
  have hbw := hbV.trans (hb1.mono hbV.size)
  have hK1 := HK.out.below hbw
  have hs1 := hb1.size
  have hsV := hbV.size
  clear c0 c1 c2 c3 c4 c5 cW
  have hbw' := mkHid hbw
  go_wp2_with fail
  refine (cQ.out w1 hbw).mono ?_
  rintro e w2 ⟨rfl, hb2⟩
  have hown2 := hown.below hb2
  have hK2 := hK1.below hb2
  have hb4 := hbw.trans (hb2.mono (by omega))
  have hs2 := hb2.size
  clear r0 r2 r3 r4 cQ
  have HK3X : Hid (∀ (v2 : Value) (w3 : World), (w2.alloc (.cells #[.string t] 9)).grownBy w3 (Value.slice vo C.length vc).ownBlock → OwnX B (.slice ko K.length kc) K w3) := fun _ w3 hg => keep_apart HK.out hK2 hown2 hsV _ w3 hg
  go_wp2_with (at_builtin; go_must (first | (refine wp_appX rfl _ _ rfl V.heap.size (.slice vo C.length vc) C rfl hown2 t 1 rfl (by omega) (by omega) ?_; intro v2 w3 hown3 hg3; have hK3 : OwnX B (.slice ko K.length kc) K w3 := HK3X.out v2 w3 hg3; obtain ⟨vo2, vc2, hv2⟩ := hown3.shape; rw [show (C ++ [t]).length = C.length + 1 from by simp] at hv2; subst hv2) | (refine wp_appL rfl _ _ rfl V.heap.size B _ (.slice ko K.length kc) (C ++ [t]) K rfl hown3 rfl hK3 (by simp; omega) (by have := hg3.size; simp at this; omega) ?_; intro v' w' hown' hg')))
  have hb5 : Below w.heap.size w w3 := (hb4.alloc (by omega) _).grown hg3 (by simp; omega) (fun k hk => by have := (World.ownsRow.lt hown2 k hk).1; omega)
  have hb3 : Below w.heap.size w w' := hb5.grown hg' (by have := hg3.size; simp at this; omega) (fun k hk => by have := (World.ownsRow.lt hown3 k hk).1; omega)
  go_wp2
  go_ret
  exact ⟨_, rfl, hown'.zero, hb3⟩
set_option maxHeartbeats 4000000 in
set_option maxRecDepth 20000 in
theorem wd7 (nm tx : ByteArray) (nu : Int) (us : List GRange) (ks : List Int) (a4 : Option Addr) (e4 lo : Nat) (v5 kv : Value) (B : Nat) (K : List ByteArray) (w : World) (hQ : QTab w) (hM : MTab w) (hP : PTab w) (hK : OwnX B kv K w) (hKl : K.length ≤ 100) (hU : GRangesL lo w.heap.size w a4 us) (h0 : 0 ≤ nu) (h1 : nu ≤ 2932896) :
    Calls Tryz.prog 15 #[.agg #[.int .i64 7, .string nm, .string tx, .int .i64 nu, .slice a4 us.length e4, v5], kv] w (RetX 0 ((Qw.keys 7 nm.data.toList).map txB ++ [txB (Qw.dy nu)] ++ K) w) := by
  obtain ⟨V, hV⟩ : ∃ V, V = w.alloc (.cells #[.int .i64 7, .string nm, .string tx, .int .i64 nu, .slice a4 us.length e4, v5] 38) := ⟨_, rfl⟩
  have hbV : Below w.heap.size w V := by rw [hV]; exact (Below.refl _ _).alloc (Nat.le_refl _) _
  have c0 : V.cell? ⟨w.heap.size, 0, none⟩ = some (.int .i64 7) := by rw [hV]; simp
  have c1 : V.cell? ⟨w.heap.size, 1, none⟩ = some (.string nm) := by rw [hV]; simp
  have c2 : V.cell? ⟨w.heap.size, 2, none⟩ = some (.string tx) := by rw [hV]; simp
  have c3 : V.cell? ⟨w.heap.size, 3, none⟩ = some (.int .i64 nu) := by rw [hV]; simp
  have c4 : V.cell? ⟨w.heap.size, 4, none⟩ = some (.slice a4 us.length e4) := by rw [hV]; simp
  have c5 : V.cell? ⟨w.heap.size, 5, none⟩ = some v5 := by rw [hV]; simp
  have hgl : w.heap.size < V.heap.size := by rw [hV]; simp
  have cQ : Hid (∀ W : World, Below w.heap.size w W → Calls Tryz.prog 36 #[.int .i64 nu, .string ⟨#[45]⟩] W fun e w' => e = .returned (.string (txB (Qw.dy nu))) ∧ Below W.heap.size W w') := fun W hb => by
    rw [show txB (Qw.dy nu) = dayT nu ⟨#[45]⟩ from txB_back _]
    exact implDayText nu ⟨#[45]⟩ W rfl h0 h1 (hM.on hb) (ptab_on hP hb)
  generalize txB (Qw.dy nu) = t at *
  have cW := mkHid (implKeyWords ⟨7, nm, tx, nu, us, ks⟩ (.slice a4 us.length e4) v5 V (hQ.on hbV))
  unfold GQueryNodeV at cW
  dsimp only at cW
  have hkl := keys_len 7 nm.data.toList
  generalize (Qw.keys 7 nm.data.toList).map txB = C at *
  have HK := mkHid hK
  replace hV := mkHid hV
  clear hK hQ
  clear hM hP hU
  obtain ⟨ko, kc, rfl⟩ := HK.out.shape
  go_enter Tryz.func15, Tryz.ntmps15
  go_wp2_with fail
  rw [← hV.out]
  refine cW.out.mono ?_
  rintro e w1 ⟨v1, rfl, hown, hb1⟩
  obtain ⟨vo, vc, rfl⟩ := hown.shape
  have r0 := (hb1.cell (p := ⟨w.heap.size, 0, none⟩) hgl).trans c0
  have r2 := (hb1.cell (p := ⟨w.heap.size, 2, none⟩) hgl).trans c2
  have r3 := (hb1.cell (p := ⟨w.heap.size, 3, none⟩) hgl).trans c3
  have r4 := (hb1.cell (p := ⟨w.heap.size, 4, none⟩) hgl).trans c4
  have hbw := hbV.trans (hb1.mono hbV.size)
  have hK1 := HK.out.below hbw
  have hs1 := hb1.size
  have hsV := hbV.size
  clear c0 c1 c2 c3 c4 c5 cW
  have hbw' := mkHid hbw
  go_wp2_with fail
  refine (cQ.out w1 hbw).mono ?_
  rintro e w2 ⟨rfl, hb2⟩
  have hown2 := hown.below hb2
  have hK2 := hK1.below hb2
  have hb4 := hbw.trans (hb2.mono (by omega))
  have hs2 := hb2.size
  clear r0 r2 r3 r4 cQ
  have HK3X : Hid (∀ (v2 : Value) (w3 : World), (w2.alloc (.cells #[.string t] 9)).grownBy w3 (Value.slice vo C.length vc).ownBlock → OwnX B (.slice ko K.length kc) K w3) := fun _ w3 hg => keep_apart HK.out hK2 hown2 hsV _ w3 hg
  go_wp2_with (at_builtin; go_must (first | (refine wp_appX rfl _ _ rfl V.heap.size (.slice vo C.length vc) C rfl hown2 t 1 rfl (by omega) (by omega) ?_; intro v2 w3 hown3 hg3; have hK3 : OwnX B (.slice ko K.length kc) K w3 := HK3X.out v2 w3 hg3; obtain ⟨vo2, vc2, hv2⟩ := hown3.shape; rw [show (C ++ [t]).length = C.length + 1 from by simp] at hv2; subst hv2) | (refine wp_appL rfl _ _ rfl V.heap.size B _ (.slice ko K.length kc) (C ++ [t]) K rfl hown3 rfl hK3 (by simp; omega) (by have := hg3.size; simp at this; omega) ?_; intro v' w' hown' hg')))
  have hb5 : Below w.heap.size w w3 := (hb4.alloc (by omega) _).grown hg3 (by simp; omega) (fun k hk => by have := (World.ownsRow.lt hown2 k hk).1; omega)
  have hb3 : Below w.heap.size w w' := hb5.grown hg' (by have := hg3.size; simp at this; omega) (fun k hk => by have := (World.ownsRow.lt hown3 k hk).1; omega)
  go_wp2
  go_ret
  exact ⟨_, rfl, hown'.zero, hb3⟩
set_option maxHeartbeats 4000000 in
set_option maxRecDepth 20000 in
theorem wd8 (nm tx : ByteArray) (nu : Int) (us : List GRange) (ks : List Int) (a4 : Option Addr) (e4 lo : Nat) (v5 kv : Value) (B : Nat) (K : List ByteArray) (w : World) (hQ : QTab w) (hM : MTab w) (hP : PTab w) (hK : OwnX B kv K w) (hKl : K.length ≤ 100) (hU : GRangesL lo w.heap.size w a4 us) (h0 : 0 ≤ nu) (h1 : nu ≤ 2932896) :
    Calls Tryz.prog 15 #[.agg #[.int .i64 8, .string nm, .string tx, .int .i64 nu, .slice a4 us.length e4, v5], kv] w (RetX 0 ((Qw.keys 8 nm.data.toList).map txB ++ [txB (Qw.dy nu)] ++ K) w) := by
  obtain ⟨V, hV⟩ : ∃ V, V = w.alloc (.cells #[.int .i64 8, .string nm, .string tx, .int .i64 nu, .slice a4 us.length e4, v5] 38) := ⟨_, rfl⟩
  have hbV : Below w.heap.size w V := by rw [hV]; exact (Below.refl _ _).alloc (Nat.le_refl _) _
  have c0 : V.cell? ⟨w.heap.size, 0, none⟩ = some (.int .i64 8) := by rw [hV]; simp
  have c1 : V.cell? ⟨w.heap.size, 1, none⟩ = some (.string nm) := by rw [hV]; simp
  have c2 : V.cell? ⟨w.heap.size, 2, none⟩ = some (.string tx) := by rw [hV]; simp
  have c3 : V.cell? ⟨w.heap.size, 3, none⟩ = some (.int .i64 nu) := by rw [hV]; simp
  have c4 : V.cell? ⟨w.heap.size, 4, none⟩ = some (.slice a4 us.length e4) := by rw [hV]; simp
  have c5 : V.cell? ⟨w.heap.size, 5, none⟩ = some v5 := by rw [hV]; simp
  have hgl : w.heap.size < V.heap.size := by rw [hV]; simp
  have cQ : Hid (∀ W : World, Below w.heap.size w W → Calls Tryz.prog 36 #[.int .i64 nu, .string ⟨#[45]⟩] W fun e w' => e = .returned (.string (txB (Qw.dy nu))) ∧ Below W.heap.size W w') := fun W hb => by
    rw [show txB (Qw.dy nu) = dayT nu ⟨#[45]⟩ from txB_back _]
    exact implDayText nu ⟨#[45]⟩ W rfl h0 h1 (hM.on hb) (ptab_on hP hb)
  generalize txB (Qw.dy nu) = t at *
  have cW := mkHid (implKeyWords ⟨8, nm, tx, nu, us, ks⟩ (.slice a4 us.length e4) v5 V (hQ.on hbV))
  unfold GQueryNodeV at cW
  dsimp only at cW
  have hkl := keys_len 8 nm.data.toList
  generalize (Qw.keys 8 nm.data.toList).map txB = C at *
  have HK := mkHid hK
  replace hV := mkHid hV
  clear hK hQ
  clear hM hP hU
  obtain ⟨ko, kc, rfl⟩ := HK.out.shape
  go_enter Tryz.func15, Tryz.ntmps15
  go_wp2_with fail
  rw [← hV.out]
  refine cW.out.mono ?_
  rintro e w1 ⟨v1, rfl, hown, hb1⟩
  obtain ⟨vo, vc, rfl⟩ := hown.shape
  have r0 := (hb1.cell (p := ⟨w.heap.size, 0, none⟩) hgl).trans c0
  have r2 := (hb1.cell (p := ⟨w.heap.size, 2, none⟩) hgl).trans c2
  have r3 := (hb1.cell (p := ⟨w.heap.size, 3, none⟩) hgl).trans c3
  have r4 := (hb1.cell (p := ⟨w.heap.size, 4, none⟩) hgl).trans c4
  have hbw := hbV.trans (hb1.mono hbV.size)
  have hK1 := HK.out.below hbw
  have hs1 := hb1.size
  have hsV := hbV.size
  clear c0 c1 c2 c3 c4 c5 cW
  have hbw' := mkHid hbw
  go_wp2_with fail
  refine (cQ.out w1 hbw).mono ?_
  rintro e w2 ⟨rfl, hb2⟩
  have hown2 := hown.below hb2
  have hK2 := hK1.below hb2
  have hb4 := hbw.trans (hb2.mono (by omega))
  have hs2 := hb2.size
  clear r0 r2 r3 r4 cQ
  have HK3X : Hid (∀ (v2 : Value) (w3 : World), (w2.alloc (.cells #[.string t] 9)).grownBy w3 (Value.slice vo C.length vc).ownBlock → OwnX B (.slice ko K.length kc) K w3) := fun _ w3 hg => keep_apart HK.out hK2 hown2 hsV _ w3 hg
  go_wp2_with (at_builtin; go_must (first | (refine wp_appX rfl _ _ rfl V.heap.size (.slice vo C.length vc) C rfl hown2 t 1 rfl (by omega) (by omega) ?_; intro v2 w3 hown3 hg3; have hK3 : OwnX B (.slice ko K.length kc) K w3 := HK3X.out v2 w3 hg3; obtain ⟨vo2, vc2, hv2⟩ := hown3.shape; rw [show (C ++ [t]).length = C.length + 1 from by simp] at hv2; subst hv2) | (refine wp_appL rfl _ _ rfl V.heap.size B _ (.slice ko K.length kc) (C ++ [t]) K rfl hown3 rfl hK3 (by simp; omega) (by have := hg3.size; simp at this; omega) ?_; intro v' w' hown' hg')))
  have hb5 : Below w.heap.size w w3 := (hb4.alloc (by omega) _).grown hg3 (by simp; omega) (fun k hk => by have := (World.ownsRow.lt hown2 k hk).1; omega)
  have hb3 : Below w.heap.size w w' := hb5.grown hg' (by have := hg3.size; simp at this; omega) (fun k hk => by have := (World.ownsRow.lt hown3 k hk).1; omega)
  go_wp2
  go_ret
  exact ⟨_, rfl, hown'.zero, hb3⟩
set_option maxHeartbeats 4000000 in
set_option maxRecDepth 20000 in
theorem wd9 (nm tx : ByteArray) (nu : Int) (us : List GRange) (ks : List Int) (a4 : Option Addr) (e4 lo : Nat) (v5 kv : Value) (B : Nat) (K : List ByteArray) (w : World) (hQ : QTab w) (hM : MTab w) (hP : PTab w) (hK : OwnX B kv K w) (hKl : K.length ≤ 100) (hU : GRangesL lo w.heap.size w a4 us) (h0 : 0 ≤ nu) (h1 : nu ≤ 2932896) :
    Calls Tryz.prog 15 #[.agg #[.int .i64 9, .string nm, .string tx, .int .i64 nu, .slice a4 us.length e4, v5], kv] w (RetX 0 ((Qw.keys 9 nm.data.toList).map txB ++ [txB (Qw.dy nu)] ++ K) w) := by
  obtain ⟨V, hV⟩ : ∃ V, V = w.alloc (.cells #[.int .i64 9, .string nm, .string tx, .int .i64 nu, .slice a4 us.length e4, v5] 38) := ⟨_, rfl⟩
  have hbV : Below w.heap.size w V := by rw [hV]; exact (Below.refl _ _).alloc (Nat.le_refl _) _
  have c0 : V.cell? ⟨w.heap.size, 0, none⟩ = some (.int .i64 9) := by rw [hV]; simp
  have c1 : V.cell? ⟨w.heap.size, 1, none⟩ = some (.string nm) := by rw [hV]; simp
  have c2 : V.cell? ⟨w.heap.size, 2, none⟩ = some (.string tx) := by rw [hV]; simp
  have c3 : V.cell? ⟨w.heap.size, 3, none⟩ = some (.int .i64 nu) := by rw [hV]; simp
  have c4 : V.cell? ⟨w.heap.size, 4, none⟩ = some (.slice a4 us.length e4) := by rw [hV]; simp
  have c5 : V.cell? ⟨w.heap.size, 5, none⟩ = some v5 := by rw [hV]; simp
  have hgl : w.heap.size < V.heap.size := by rw [hV]; simp
  have cQ : Hid (∀ W : World, Below w.heap.size w W → Calls Tryz.prog 36 #[.int .i64 nu, .string ⟨#[45]⟩] W fun e w' => e = .returned (.string (txB (Qw.dy nu))) ∧ Below W.heap.size W w') := fun W hb => by
    rw [show txB (Qw.dy nu) = dayT nu ⟨#[45]⟩ from txB_back _]
    exact implDayText nu ⟨#[45]⟩ W rfl h0 h1 (hM.on hb) (ptab_on hP hb)
  generalize txB (Qw.dy nu) = t at *
  have cW := mkHid (implKeyWords ⟨9, nm, tx, nu, us, ks⟩ (.slice a4 us.length e4) v5 V (hQ.on hbV))
  unfold GQueryNodeV at cW
  dsimp only at cW
  have hkl := keys_len 9 nm.data.toList
  generalize (Qw.keys 9 nm.data.toList).map txB = C at *
  have HK := mkHid hK
  replace hV := mkHid hV
  clear hK hQ
  clear hM hP hU
  obtain ⟨ko, kc, rfl⟩ := HK.out.shape
  go_enter Tryz.func15, Tryz.ntmps15
  go_wp2_with fail
  rw [← hV.out]
  refine cW.out.mono ?_
  rintro e w1 ⟨v1, rfl, hown, hb1⟩
  obtain ⟨vo, vc, rfl⟩ := hown.shape
  have r0 := (hb1.cell (p := ⟨w.heap.size, 0, none⟩) hgl).trans c0
  have r2 := (hb1.cell (p := ⟨w.heap.size, 2, none⟩) hgl).trans c2
  have r3 := (hb1.cell (p := ⟨w.heap.size, 3, none⟩) hgl).trans c3
  have r4 := (hb1.cell (p := ⟨w.heap.size, 4, none⟩) hgl).trans c4
  have hbw := hbV.trans (hb1.mono hbV.size)
  have hK1 := HK.out.below hbw
  have hs1 := hb1.size
  have hsV := hbV.size
  clear c0 c1 c2 c3 c4 c5 cW
  have hbw' := mkHid hbw
  go_wp2_with fail
  refine (cQ.out w1 hbw).mono ?_
  rintro e w2 ⟨rfl, hb2⟩
  have hown2 := hown.below hb2
  have hK2 := hK1.below hb2
  have hb4 := hbw.trans (hb2.mono (by omega))
  have hs2 := hb2.size
  clear r0 r2 r3 r4 cQ
  have HK3X : Hid (∀ (v2 : Value) (w3 : World), (w2.alloc (.cells #[.string t] 9)).grownBy w3 (Value.slice vo C.length vc).ownBlock → OwnX B (.slice ko K.length kc) K w3) := fun _ w3 hg => keep_apart HK.out hK2 hown2 hsV _ w3 hg
  go_wp2_with (at_builtin; go_must (first | (refine wp_appX rfl _ _ rfl V.heap.size (.slice vo C.length vc) C rfl hown2 t 1 rfl (by omega) (by omega) ?_; intro v2 w3 hown3 hg3; have hK3 : OwnX B (.slice ko K.length kc) K w3 := HK3X.out v2 w3 hg3; obtain ⟨vo2, vc2, hv2⟩ := hown3.shape; rw [show (C ++ [t]).length = C.length + 1 from by simp] at hv2; subst hv2) | (refine wp_appL rfl _ _ rfl V.heap.size B _ (.slice ko K.length kc) (C ++ [t]) K rfl hown3 rfl hK3 (by simp; omega) (by have := hg3.size; simp at this; omega) ?_; intro v' w' hown' hg')))
  have hb5 : Below w.heap.size w w3 := (hb4.alloc (by omega) _).grown hg3 (by simp; omega) (fun k hk => by have := (World.ownsRow.lt hown2 k hk).1; omega)
  have hb3 : Below w.heap.size w w' := hb5.grown hg' (by have := hg3.size; simp at this; omega) (fun k hk => by have := (World.ownsRow.lt hown3 k hk).1; omega)
  go_wp2
  go_ret
  exact ⟨_, rfl, hown'.zero, hb3⟩
set_option maxHeartbeats 4000000 in
set_option maxRecDepth 20000 in
theorem wd10 (nm tx : ByteArray) (nu : Int) (us : List GRange) (ks : List Int) (a4 : Option Addr) (e4 lo : Nat) (v5 kv : Value) (B : Nat) (K : List ByteArray) (w : World) (hQ : QTab w) (hM : MTab w) (hP : PTab w) (hK : OwnX B kv K w) (hKl : K.length ≤ 100) (hU : GRangesL lo w.heap.size w a4 us) (h0 : 0 ≤ nu) (h1 : nu ≤ 9999999999) :
    Calls Tryz.prog 15 #[.agg #[.int .i64 10, .string nm, .string tx, .int .i64 nu, .slice a4 us.length e4, v5], kv] w (RetX 0 ((Qw.keys 10 nm.data.toList).map txB ++ [txB (decDigits nu.toNat)] ++ K) w) := by
  obtain ⟨V, hV⟩ : ∃ V, V = w.alloc (.cells #[.int .i64 10, .string nm, .string tx, .int .i64 nu, .slice a4 us.length e4, v5] 38) := ⟨_, rfl⟩
  have hbV : Below w.heap.size w V := by rw [hV]; exact (Below.refl _ _).alloc (Nat.le_refl _) _
  have c0 : V.cell? ⟨w.heap.size, 0, none⟩ = some (.int .i64 10) := by rw [hV]; simp
  have c1 : V.cell? ⟨w.heap.size, 1, none⟩ = some (.string nm) := by rw [hV]; simp
  have c2 : V.cell? ⟨w.heap.size, 2, none⟩ = some (.string tx) := by rw [hV]; simp
  have c3 : V.cell? ⟨w.heap.size, 3, none⟩ = some (.int .i64 nu) := by rw [hV]; simp
  have c4 : V.cell? ⟨w.heap.size, 4, none⟩ = some (.slice a4 us.length e4) := by rw [hV]; simp
  have c5 : V.cell? ⟨w.heap.size, 5, none⟩ = some v5 := by rw [hV]; simp
  have hgl : w.heap.size < V.heap.size := by rw [hV]; simp
  have cQ : Hid (∀ W : World, Below w.heap.size w W → Calls Tryz.prog 37 #[.int .i64 nu, .int .i64 10] W fun e w' => e = .returned (.string (txB (decDigits nu.toNat))) ∧ Below W.heap.size W w') := fun W hb => libFormat nu W h0 (by omega) (ptab_on hP hb)
  generalize txB (decDigits nu.toNat) = t at *
  have cW := mkHid (implKeyWords ⟨10, nm, tx, nu, us, ks⟩ (.slice a4 us.length e4) v5 V (hQ.on hbV))
  unfold GQueryNodeV at cW
  dsimp only at cW
  have hkl := keys_len 10 nm.data.toList
  generalize (Qw.keys 10 nm.data.toList).map txB = C at *
  have HK := mkHid hK
  replace hV := mkHid hV
  clear hK hQ
  clear hM hP hU
  obtain ⟨ko, kc, rfl⟩ := HK.out.shape
  go_enter Tryz.func15, Tryz.ntmps15
  go_wp2_with fail
  rw [← hV.out]
  refine cW.out.mono ?_
  rintro e w1 ⟨v1, rfl, hown, hb1⟩
  obtain ⟨vo, vc, rfl⟩ := hown.shape
  have r0 := (hb1.cell (p := ⟨w.heap.size, 0, none⟩) hgl).trans c0
  have r2 := (hb1.cell (p := ⟨w.heap.size, 2, none⟩) hgl).trans c2
  have r3 := (hb1.cell (p := ⟨w.heap.size, 3, none⟩) hgl).trans c3
  have r4 := (hb1.cell (p := ⟨w.heap.size, 4, none⟩) hgl).trans c4
  have hbw := hbV.trans (hb1.mono hbV.size)
  have hK1 := HK.out.below hbw
  have hs1 := hb1.size
  have hsV := hbV.size
  clear c0 c1 c2 c3 c4 c5 cW
  have hbw' := mkHid hbw
  go_wp2_with fail
  refine (cQ.out w1 hbw).mono ?_
  rintro e w2 ⟨rfl, hb2⟩
  have hown2 := hown.below hb2
  have hK2 := hK1.below hb2
  have hb4 := hbw.trans (hb2.mono (by omega))
  have hs2 := hb2.size
  clear r0 r2 r3 r4 cQ
  have HK3X : Hid (∀ (v2 : Value) (w3 : World), (w2.alloc (.cells #[.string t] 9)).grownBy w3 (Value.slice vo C.length vc).ownBlock → OwnX B (.slice ko K.length kc) K w3) := fun _ w3 hg => keep_apart HK.out hK2 hown2 hsV _ w3 hg
  go_wp2_with (at_builtin; go_must (first | (refine wp_appX rfl _ _ rfl V.heap.size (.slice vo C.length vc) C rfl hown2 t 1 rfl (by omega) (by omega) ?_; intro v2 w3 hown3 hg3; have hK3 : OwnX B (.slice ko K.length kc) K w3 := HK3X.out v2 w3 hg3; obtain ⟨vo2, vc2, hv2⟩ := hown3.shape; rw [show (C ++ [t]).length = C.length + 1 from by simp] at hv2; subst hv2) | (refine wp_appL rfl _ _ rfl V.heap.size B _ (.slice ko K.length kc) (C ++ [t]) K rfl hown3 rfl hK3 (by simp; omega) (by have := hg3.size; simp at this; omega) ?_; intro v' w' hown' hg')))
  have hb5 : Below w.heap.size w w3 := (hb4.alloc (by omega) _).grown hg3 (by simp; omega) (fun k hk => by have := (World.ownsRow.lt hown2 k hk).1; omega)
  have hb3 : Below w.heap.size w w' := hb5.grown hg' (by have := hg3.size; simp at this; omega) (fun k hk => by have := (World.ownsRow.lt hown3 k hk).1; omega)
  go_wp2
  go_ret
  exact ⟨_, rfl, hown'.zero, hb3⟩
set_option maxHeartbeats 4000000 in
set_option maxRecDepth 20000 in
theorem wd11 (nm tx : ByteArray) (nu : Int) (us : List GRange) (ks : List Int) (a4 : Option Addr) (e4 lo : Nat) (v5 kv : Value) (B : Nat) (K : List ByteArray) (w : World) (hQ : QTab w) (hM : MTab w) (hP : PTab w) (hK : OwnX B kv K w) (hKl : K.length ≤ 100) (hU : GRangesL lo w.heap.size w a4 us) (h0 : 0 ≤ nu) (h1 : nu ≤ 9999999999) :
    Calls Tryz.prog 15 #[.agg #[.int .i64 11, .string nm, .string tx, .int .i64 nu, .slice a4 us.length e4, v5], kv] w (RetX 0 ((Qw.keys 11 nm.data.toList).map txB ++ [txB (decDigits nu.toNat)] ++ K) w) := by
  obtain ⟨V, hV⟩ : ∃ V, V = w.alloc (.cells #[.int .i64 11, .string nm, .string tx, .int .i64 nu, .slice a4 us.length e4, v5] 38) := ⟨_, rfl⟩
  have hbV : Below w.heap.size w V := by rw [hV]; exact (Below.refl _ _).alloc (Nat.le_refl _) _
  have c0 : V.cell? ⟨w.heap.size, 0, none⟩ = some (.int .i64 11) := by rw [hV]; simp
  have c1 : V.cell? ⟨w.heap.size, 1, none⟩ = some (.string nm) := by rw [hV]; simp
  have c2 : V.cell? ⟨w.heap.size, 2, none⟩ = some (.string tx) := by rw [hV]; simp
  have c3 : V.cell? ⟨w.heap.size, 3, none⟩ = some (.int .i64 nu) := by rw [hV]; simp
  have c4 : V.cell? ⟨w.heap.size, 4, none⟩ = some (.slice a4 us.length e4) := by rw [hV]; simp
  have c5 : V.cell? ⟨w.heap.size, 5, none⟩ = some v5 := by rw [hV]; simp
  have hgl : w.heap.size < V.heap.size := by rw [hV]; simp
  have cQ : Hid (∀ W : World, Below w.heap.size w W → Calls Tryz.prog 37 #[.int .i64 nu, .int .i64 10] W fun e w' => e = .returned (.string (txB (decDigits nu.toNat))) ∧ Below W.heap.size W w') := fun W hb => libFormat nu W h0 (by omega) (ptab_on hP hb)
  generalize txB (decDigits nu.toNat) = t at *
  have cW := mkHid (implKeyWords ⟨11, nm, tx, nu, us, ks⟩ (.slice a4 us.length e4) v5 V (hQ.on hbV))
  unfold GQueryNodeV at cW
  dsimp only at cW
  have hkl := keys_len 11 nm.data.toList
  generalize (Qw.keys 11 nm.data.toList).map txB = C at *
  have HK := mkHid hK
  replace hV := mkHid hV
  clear hK hQ
  clear hM hP hU
  obtain ⟨ko, kc, rfl⟩ := HK.out.shape
  go_enter Tryz.func15, Tryz.ntmps15
  go_wp2_with fail
  rw [← hV.out]
  refine cW.out.mono ?_
  rintro e w1 ⟨v1, rfl, hown, hb1⟩
  obtain ⟨vo, vc, rfl⟩ := hown.shape
  have r0 := (hb1.cell (p := ⟨w.heap.size, 0, none⟩) hgl).trans c0
  have r2 := (hb1.cell (p := ⟨w.heap.size, 2, none⟩) hgl).trans c2
  have r3 := (hb1.cell (p := ⟨w.heap.size, 3, none⟩) hgl).trans c3
  have r4 := (hb1.cell (p := ⟨w.heap.size, 4, none⟩) hgl).trans c4
  have hbw := hbV.trans (hb1.mono hbV.size)
  have hK1 := HK.out.below hbw
  have hs1 := hb1.size
  have hsV := hbV.size
  clear c0 c1 c2 c3 c4 c5 cW
  have hbw' := mkHid hbw
  go_wp2_with fail
  refine (cQ.out w1 hbw).mono ?_
  rintro e w2 ⟨rfl, hb2⟩
  have hown2 := hown.below hb2
  have hK2 := hK1.below hb2
  have hb4 := hbw.trans (hb2.mono (by omega))
  have hs2 := hb2.size
  clear r0 r2 r3 r4 cQ
  have HK3X : Hid (∀ (v2 : Value) (w3 : World), (w2.alloc (.cells #[.string t] 9)).grownBy w3 (Value.slice vo C.length vc).ownBlock → OwnX B (.slice ko K.length kc) K w3) := fun _ w3 hg => keep_apart HK.out hK2 hown2 hsV _ w3 hg
  go_wp2_with (at_builtin; go_must (first | (refine wp_appX rfl _ _ rfl V.heap.size (.slice vo C.length vc) C rfl hown2 t 1 rfl (by omega) (by omega) ?_; intro v2 w3 hown3 hg3; have hK3 : OwnX B (.slice ko K.length kc) K w3 := HK3X.out v2 w3 hg3; obtain ⟨vo2, vc2, hv2⟩ := hown3.shape; rw [show (C ++ [t]).length = C.length + 1 from by simp] at hv2; subst hv2) | (refine wp_appL rfl _ _ rfl V.heap.size B _ (.slice ko K.length kc) (C ++ [t]) K rfl hown3 rfl hK3 (by simp; omega) (by have := hg3.size; simp at this; omega) ?_; intro v' w' hown' hg')))
  have hb5 : Below w.heap.size w w3 := (hb4.alloc (by omega) _).grown hg3 (by simp; omega) (fun k hk => by have := (World.ownsRow.lt hown2 k hk).1; omega)
  have hb3 : Below w.heap.size w w' := hb5.grown hg' (by have := hg3.size; simp at this; omega) (fun k hk => by have := (World.ownsRow.lt hown3 k hk).1; omega)
  go_wp2
  go_ret
  exact ⟨_, rfl, hown'.zero, hb3⟩
set_option maxHeartbeats 4000000 in
set_option maxRecDepth 20000 in
theorem wd13 (nm tx : ByteArray) (nu : Int) (us : List GRange) (ks : List Int) (a4 : Option Addr) (e4 lo : Nat) (v5 kv : Value) (B : Nat) (K : List ByteArray) (w : World) (hQ : QTab w) (hM : MTab w) (hP : PTab w) (hK : OwnX B kv K w) (hKl : K.length ≤ 100) (hU : GRangesL lo w.heap.size w a4 us) (h0 : 0 ≤ nu) (h1 : nu ≤ 9999999999) :
    Calls Tryz.prog 15 #[.agg #[.int .i64 13, .string nm, .string tx, .int .i64 nu, .slice a4 us.length e4, v5], kv] w (RetX 0 ((Qw.keys 13 nm.data.toList).map txB ++ [txB (decDigits nu.toNat)] ++ K) w) := by
  obtain ⟨V, hV⟩ : ∃ V, V = w.alloc (.cells #[.int .i64 13, .string nm, .string tx, .int .i64 nu, .slice a4 us.length e4, v5] 38) := ⟨_, rfl⟩
  have hbV : Below w.heap.size w V := by rw [hV]; exact (Below.refl _ _).alloc (Nat.le_refl _) _
  have c0 : V.cell? ⟨w.heap.size, 0, none⟩ = some (.int .i64 13) := by rw [hV]; simp
  have c1 : V.cell? ⟨w.heap.size, 1, none⟩ = some (.string nm) := by rw [hV]; simp
  have c2 : V.cell? ⟨w.heap.size, 2, none⟩ = some (.string tx) := by rw [hV]; simp
  have c3 : V.cell? ⟨w.heap.size, 3, none⟩ = some (.int .i64 nu) := by rw [hV]; simp
  have c4 : V.cell? ⟨w.heap.size, 4, none⟩ = some (.slice a4 us.length e4) := by rw [hV]; simp
  have c5 : V.cell? ⟨w.heap.size, 5, none⟩ = some v5 := by rw [hV]; simp
  have hgl : w.heap.size < V.heap.size := by rw [hV]; simp
  have cQ : Hid (∀ W : World, Below w.heap.size w W → Calls Tryz.prog 37 #[.int .i64 nu, .int .i64 10] W fun e w' => e = .returned (.string (txB (decDigits nu.toNat))) ∧ Below W.heap.size W w') := fun W hb => libFormat nu W h0 (by omega) (ptab_on hP hb)
  generalize txB (decDigits nu.toNat) = t at *
  have cW := mkHid (implKeyWords ⟨13, nm, tx, nu, us, ks⟩ (.slice a4 us.length e4) v5 V (hQ.on hbV))
  unfold GQueryNodeV at cW
  dsimp only at cW
  have hkl := keys_len 13 nm.data.toList
  generalize (Qw.keys 13 nm.data.toList).map txB = C at *
  have HK := mkHid hK
  replace hV := mkHid hV
  clear hK hQ
  clear hM hP hU
  obtain ⟨ko, kc, rfl⟩ := HK.out.shape
  go_enter Tryz.func15, Tryz.ntmps15
  go_wp2_with fail
  rw [← hV.out]
  refine cW.out.mono ?_
  rintro e w1 ⟨v1, rfl, hown, hb1⟩
  obtain ⟨vo, vc, rfl⟩ := hown.shape
  have r0 := (hb1.cell (p := ⟨w.heap.size, 0, none⟩) hgl).trans c0
  have r2 := (hb1.cell (p := ⟨w.heap.size, 2, none⟩) hgl).trans c2
  have r3 := (hb1.cell (p := ⟨w.heap.size, 3, none⟩) hgl).trans c3
  have r4 := (hb1.cell (p := ⟨w.heap.size, 4, none⟩) hgl).trans c4
  have hbw := hbV.trans (hb1.mono hbV.size)
  have hK1 := HK.out.below hbw
  have hs1 := hb1.size
  have hsV := hbV.size
  clear c0 c1 c2 c3 c4 c5 cW
  have hbw' := mkHid hbw
  go_wp2_with fail
  refine (cQ.out w1 hbw).mono ?_
  rintro e w2 ⟨rfl, hb2⟩
  have hown2 := hown.below hb2
  have hK2 := hK1.below hb2
  have hb4 := hbw.trans (hb2.mono (by omega))
  have hs2 := hb2.size
  clear r0 r2 r3 r4 cQ
  have HK3X : Hid (∀ (v2 : Value) (w3 : World), (w2.alloc (.cells #[.string t] 9)).grownBy w3 (Value.slice vo C.length vc).ownBlock → OwnX B (.slice ko K.length kc) K w3) := fun _ w3 hg => keep_apart HK.out hK2 hown2 hsV _ w3 hg
  go_wp2_with (at_builtin; go_must (first | (refine wp_appX rfl _ _ rfl V.heap.size (.slice vo C.length vc) C rfl hown2 t 1 rfl (by omega) (by omega) ?_; intro v2 w3 hown3 hg3; have hK3 : OwnX B (.slice ko K.length kc) K w3 := HK3X.out v2 w3 hg3; obtain ⟨vo2, vc2, hv2⟩ := hown3.shape; rw [show (C ++ [t]).length = C.length + 1 from by simp] at hv2; subst hv2) | (refine wp_appL rfl _ _ rfl V.heap.size B _ (.slice ko K.length kc) (C ++ [t]) K rfl hown3 rfl hK3 (by simp; omega) (by have := hg3.size; simp at this; omega) ?_; intro v' w' hown' hg')))
  have hb5 : Below w.heap.size w w3 := (hb4.alloc (by omega) _).grown hg3 (by simp; omega) (fun k hk => by have := (World.ownsRow.lt hown2 k hk).1; omega)
  have hb3 : Below w.heap.size w w' := hb5.grown hg' (by have := hg3.size; simp at this; omega) (fun k hk => by have := (World.ownsRow.lt hown3 k hk).1; omega)
  go_wp2
  go_ret
  exact ⟨_, rfl, hown'.zero, hb3⟩
set_option maxHeartbeats 4000000 in
set_option maxRecDepth 20000 in
theorem wd12 (nm tx : ByteArray) (nu : Int) (us : List GRange) (ks : List Int) (a4 : Option Addr) (e4 lo : Nat) (v5 kv : Value) (B : Nat) (K : List ByteArray) (w : World) (hQ : QTab w) (hM : MTab w) (hP : PTab w) (hK : OwnX B kv K w) (hKl : K.length ≤ 100) (hU : GRangesL lo w.heap.size w a4 us) (hr : Rg.rsOk us = true) (hf : us.length ≤ 1048576 ∧ ∀ x ∈ us, x.fits 1048576) :
    Calls Tryz.prog 15 #[.agg #[.int .i64 12, .string nm, .string tx, .int .i64 nu, .slice a4 us.length e4, v5], kv] w (RetX 0 ((Qw.keys 12 nm.data.toList).map txB ++ [txB (Rg.wr us)] ++ K) w) := by
  obtain ⟨V, hV⟩ : ∃ V, V = w.alloc (.cells #[.int .i64 12, .string nm, .string tx, .int .i64 nu, .slice a4 us.length e4, v5] 38) := ⟨_, rfl⟩
  have hbV : Below w.heap.size w V := by rw [hV]; exact (Below.refl _ _).alloc (Nat.le_refl _) _
  have c0 : V.cell? ⟨w.heap.size, 0, none⟩ = some (.int .i64 12) := by rw [hV]; simp
  have c1 : V.cell? ⟨w.heap.size, 1, none⟩ = some (.string nm) := by rw [hV]; simp
  have c2 : V.cell? ⟨w.heap.size, 2, none⟩ = some (.string tx) := by rw [hV]; simp
  have c3 : V.cell? ⟨w.heap.size, 3, none⟩ = some (.int .i64 nu) := by rw [hV]; simp
  have c4 : V.cell? ⟨w.heap.size, 4, none⟩ = some (.slice a4 us.length e4) := by rw [hV]; simp
  have c5 : V.cell? ⟨w.heap.size, 5, none⟩ = some v5 := by rw [hV]; simp
  have hgl : w.heap.size < V.heap.size := by rw [hV]; simp
  have cQ : Hid (∀ W : World, Below w.heap.size w W → Calls Tryz.prog 38 #[.slice a4 us.length e4] W fun e w' => e = .returned (.string (txB (Rg.wr us))) ∧ Below W.heap.size W w') := fun W hb => by
    have := implWriteRanges a4 us e4 lo W (ptab_on hP hb) ((hU.below hb (Nat.le_refl _)).mono (Nat.le_refl _) hb.size) hf.1 hf.2
    unfold plWriteRanges at this
    rw [if_pos hr] at this
    exact this
  generalize txB (Rg.wr us) = t at *
  have cW := mkHid (implKeyWords ⟨12, nm, tx, nu, us, ks⟩ (.slice a4 us.length e4) v5 V (hQ.on hbV))
  unfold GQueryNodeV at cW
  dsimp only at cW
  have hkl := keys_len 12 nm.data.toList
  generalize (Qw.keys 12 nm.data.toList).map txB = C at *
  have HK := mkHid hK
  replace hV := mkHid hV
  clear hK hQ
  clear hM hP hU
  obtain ⟨ko, kc, rfl⟩ := HK.out.shape
  go_enter Tryz.func15, Tryz.ntmps15
  go_wp2_with fail
  rw [← hV.out]
  refine cW.out.mono ?_
  rintro e w1 ⟨v1, rfl, hown, hb1⟩
  obtain ⟨vo, vc, rfl⟩ := hown.shape
  have r0 := (hb1.cell (p := ⟨w.heap.size, 0, none⟩) hgl).trans c0
  have r2 := (hb1.cell (p := ⟨w.heap.size, 2, none⟩) hgl).trans c2
  have r3 := (hb1.cell (p := ⟨w.heap.size, 3, none⟩) hgl).trans c3
  have r4 := (hb1.cell (p := ⟨w.heap.size, 4, none⟩) hgl).trans c4
  have hbw := hbV.trans (hb1.mono hbV.size)
  have hK1 := HK.out.below hbw
  have hs1 := hb1.size
  have hsV := hbV.size
  clear c0 c1 c2 c3 c4 c5 cW
  have hbw' := mkHid hbw
  go_wp2_with fail
  refine (cQ.out w1 hbw).mono ?_
  rintro e w2 ⟨rfl, hb2⟩
  have hown2 := hown.below hb2
  have hK2 := hK1.below hb2
  have hb4 := hbw.trans (hb2.mono (by omega))
  have hs2 := hb2.size
  clear r0 r2 r3 r4 cQ
  have HK3X : Hid (∀ (v2 : Value) (w3 : World), (w2.alloc (.cells #[.string t] 9)).grownBy w3 (Value.slice vo C.length vc).ownBlock → OwnX B (.slice ko K.length kc) K w3) := fun _ w3 hg => keep_apart HK.out hK2 hown2 hsV _ w3 hg
  go_wp2_with (at_builtin; go_must (first | (refine wp_appX rfl _ _ rfl V.heap.size (.slice vo C.length vc) C rfl hown2 t 1 rfl (by omega) (by omega) ?_; intro v2 w3 hown3 hg3; have hK3 : OwnX B (.slice ko K.length kc) K w3 := HK3X.out v2 w3 hg3; obtain ⟨vo2, vc2, hv2⟩ := hown3.shape; rw [show (C ++ [t]).length = C.length + 1 from by simp] at hv2; subst hv2) | (refine wp_appL rfl _ _ rfl V.heap.size B _ (.slice ko K.length kc) (C ++ [t]) K rfl hown3 rfl hK3 (by simp; omega) (by have := hg3.size; simp at this; omega) ?_; intro v' w' hown' hg')))
  have hb5 : Below w.heap.size w w3 := (hb4.alloc (by omega) _).grown hg3 (by simp; omega) (fun k hk => by have := (World.ownsRow.lt hown2 k hk).1; omega)
  have hb3 : Below w.heap.size w w' := hb5.grown hg' (by have := hg3.size; simp at this; omega) (fun k hk => by have := (World.ownsRow.lt hown3 k hk).1; omega)
  go_wp2
  go_ret
  exact ⟨_, rfl, hown'.zero, hb3⟩
end Go.Proofs.YtfaeckaeaeadeaaGreatDoor
set_option linter.unusedVariables false
namespace Go.Proofs.YtfaeckaeaeadeaaGreatDoor
open Go.RowKit Go.Lib Go.Maps
theorem libJoin (v : Value) (P : List ByteArray) (w : World) (h : OwnX 0 v P w) (hn : P.length ≤ 1000000) (hlen : (join (P.map (·.data.toList)) [32]).length ≤ 1000000) :
    Calls Tryz.prog 14 #[v, .string ⟨#[32]⟩] w fun e w' => e = .returned (.string (txB (join (P.map (·.data.toList)) [32]))) ∧ Below w.heap.size w w' := by
  have hc := h
  rcases h.2 with ⟨rfl, h0⟩ | ⟨g, cap, cur, rfl, h1, h2, h3, h4⟩
  · have hP : P = [] := List.length_eq_zero_iff.1 h0
    subst hP
    exact (Tryz.strings_Join_none none 0 ⟨#[32]⟩ w).mono fun e w' ⟨a, b⟩ => ⟨a, by rw [b]; exact Below.refl _ _⟩
  · have hlt := World.ownsRow.lt hc g rfl
    refine Tryz.strings_Join g 0 cap P ⟨#[32]⟩ w ?_ hlt.2 (by omega) h3 (by show (join (P.map (·.data.toList)) [32]).length ≤ _; omega)
    intro j x hj
    have hc2 := World.ownsRow.cells hc (g := g) rfl j (.string x) (by unfold strCellsX; rw [List.getElem?_map, hj]; rfl)
    rw [add_off] at hc2
    rw [Nat.zero_add]
    exact hc2
set_option maxHeartbeats 4000000 in
set_option maxRecDepth 20000 in
theorem wd16 (n : GQueryNode) (v4 v5 kv : Value) (B : Nat) (K : List ByteArray) (w : World) (hK : OwnX B kv K w) (hk : n.kind = 16) :
    Calls Tryz.prog 15 #[GQueryNodeV n v4 v5, kv] w (RetX 0 K w) := by
  obtain ⟨kd, nm, tx, nu, us, ks⟩ := n
  dsimp only at hk
  subst hk
  unfold GQueryNodeV
  dsimp only
  have hK2 := mkHid (World.ownsRow.alloc hK (.cells #[.int .i64 16, .string nm, .string tx, .int .i64 nu, v4, v5] 38))
  obtain ⟨ko, kc, rfl⟩ := hK.shape
  clear hK
  go_enter Tryz.func15, Tryz.ntmps15
  go_wp2
  go_ret
  exact ⟨_, rfl, OwnX.zero hK2.out, (Below.refl _ _).alloc (Nat.le_refl _) _⟩
theorem map_back (K : List ByteArray) : (K.map (·.data.toList)).map txB = K := by
  rw [List.map_map]
  conv => rhs; rw [← List.map_id K]
  apply List.map_congr_left
  intro t _
  exact txB_back t
theorem RetX.cast {B : Nat} {P Q : List ByteArray} {w : World} (h : P = Q) {e : Ending} {w' : World} (hr : RetX B P w e w') : RetX B Q w e w' := h ▸ hr
theorem implWords (n : GQueryNode) (a4 : Option Addr) (e4 lo : Nat) (v5 kv : Value) (B : Nat) (K : List ByteArray) (w : World) (hQ : QTab w) (hM : MTab w) (hP : PTab w) (hK : OwnX B kv K w) (hKl : K.length ≤ 100) (hU : GRangesL lo w.heap.size w a4 n.uids) (hr : Qu.right n = true) (hf : n.fits 1048576) :
    Calls Tryz.prog 15 #[GQueryNodeV n (.slice a4 n.uids.length e4) v5, kv] w (RetX 0 ((Qw.words Qw.dy n (K.map (·.data.toList))).map txB) w) := by
  by_cases x16 : n.kind = 16
  · refine (wd16 n _ v5 kv B K w hK x16).mono fun e w' h => h.cast ?_
    rw [Qw.words, if_pos x16, map_back]
  obtain ⟨k1, k2, p1, p2, p3, p4, p5⟩ := Qw.right_parts n hr
  have key : ∀ E : List (List UInt8), Qw.extra Qw.dy n = E → (Qw.keys n.kind n.name.data.toList).map txB ++ E.map txB ++ K = (Qw.words Qw.dy n (K.map (·.data.toList))).map txB := by
    intro E hE
    rw [Qw.words, if_neg x16, hE, List.map_append, List.map_append, map_back, List.append_assoc]
  obtain ⟨kd, nm, tx, nu, us, ks⟩ := n
  dsimp only at *
  unfold GQueryNodeV
  dsimp only
  unfold Qu.parts at p2 p3 p4
  dsimp only at p2 p3 p4
  by_cases x1 : kd = 1
  · subst x1
    refine (wd1 nm tx nu us ks a4 e4 lo v5 kv B K w hQ hM hP hK hKl hU).mono fun e w' h => h.cast ?_
    rw [← key [] rfl, List.map_nil, List.append_nil]
  by_cases x2 : kd = 2
  · subst x2
    refine (wd2 nm tx nu us ks a4 e4 lo v5 kv B K w hQ hM hP hK hKl hU).mono fun e w' h => h.cast ?_
    rw [← key [] rfl, List.map_nil, List.append_nil]
  by_cases x3 : kd = 3
  · subst x3
    refine (wd3 nm tx nu us ks a4 e4 lo v5 kv B K w hQ hM hP hK hKl hU).mono fun e w' h => h.cast ?_
    rw [← key [] rfl, List.map_nil, List.append_nil]
  by_cases x4 : kd = 4
  · rw [if_pos (by omega), decide_eq_true_eq] at p2
    subst x4
    refine (wd4 nm tx nu us ks a4 e4 lo v5 kv B K w hQ hM hP hK hKl hU p2).mono fun e w' h => h.cast ?_
    rw [← key [Qw.quote tx] rfl, List.map_singleton]
  by_cases x5 : kd = 5
  · rw [if_pos (by omega), decide_eq_true_eq] at p2
    subst x5
    refine (wd5 nm tx nu us ks a4 e4 lo v5 kv B K w hQ hM hP hK hKl hU p2).mono fun e w' h => h.cast ?_
    rw [← key [Qw.quote tx] rfl, List.map_singleton]
  by_cases x6 : kd = 6
  · rw [if_pos (by omega), decide_eq_true_eq] at p2
    subst x6
    refine (wd6 nm tx nu us ks a4 e4 lo v5 kv B K w hQ hM hP hK hKl hU p2).mono fun e w' h => h.cast ?_
    rw [← key [Qw.quote tx] rfl, List.map_singleton]
  by_cases x7 : kd = 7
  · rw [if_pos (by omega), Bool.and_eq_true, decide_eq_true_eq, decide_eq_true_eq] at p3
    subst x7
    refine (wd7 nm tx nu us ks a4 e4 lo v5 kv B K w hQ hM hP hK hKl hU p3.1 p3.2).mono fun e w' h => h.cast ?_
    rw [← key [Qw.dy nu] rfl, List.map_singleton]
  by_cases x8 : kd = 8
  · rw [if_pos (by omega), Bool.and_eq_true, decide_eq_true_eq, decide_eq_true_eq] at p3
    subst x8
    refine (wd8 nm tx nu us ks a4 e4 lo v5 kv B K w hQ hM hP hK hKl hU p3.1 p3.2).mono fun e w' h => h.cast ?_
    rw [← key [Qw.dy nu] rfl, List.map_singleton]
  by_cases x9 : kd = 9
  · rw [if_pos (by omega), Bool.and_eq_true, decide_eq_true_eq, decide_eq_true_eq] at p3
    subst x9
    refine (wd9 nm tx nu us ks a4 e4 lo v5 kv B K w hQ hM hP hK hKl hU p3.1 p3.2).mono fun e w' h => h.cast ?_
    rw [← key [Qw.dy nu] rfl, List.map_singleton]
  by_cases x10 : kd = 10
  · rw [if_neg (by omega), if_pos (by omega), Bool.and_eq_true, decide_eq_true_eq, decide_eq_true_eq] at p3
    subst x10
    refine (wd10 nm tx nu us ks a4 e4 lo v5 kv B K w hQ hM hP hK hKl hU p3.1 p3.2).mono fun e w' h => h.cast ?_
    rw [← key [decDigits nu.toNat] rfl, List.map_singleton]
  by_cases x11 : kd = 11
  · rw [if_neg (by omega), if_pos (by omega), Bool.and_eq_true, decide_eq_true_eq, decide_eq_true_eq] at p3
    subst x11
    refine (wd11 nm tx nu us ks a4 e4 lo v5 kv B K w hQ hM hP hK hKl hU p3.1 p3.2).mono fun e w' h => h.cast ?_
    rw [← key [decDigits nu.toNat] rfl, List.map_singleton]
  by_cases x12 : kd = 12
  · rw [if_pos x12] at p4
    subst x12
    refine (wd12 nm tx nu us ks a4 e4 lo v5 kv B K w hQ hM hP hK hKl hU p4 ⟨hf.2.2.1, hf.2.2.2.1⟩).mono fun e w' h => h.cast ?_
    rw [← key [Rg.wr us] (by show [if Rg.rsOk us then Rg.wr us else []] = _; rw [if_pos p4]), List.map_singleton]
  by_cases x13 : kd = 13
  · rw [if_neg (by omega), if_pos (by omega), Bool.and_eq_true, decide_eq_true_eq, decide_eq_true_eq] at p3
    subst x13
    refine (wd13 nm tx nu us ks a4 e4 lo v5 kv B K w hQ hM hP hK hKl hU p3.1 p3.2).mono fun e w' h => h.cast ?_
    rw [← key [decDigits nu.toNat] rfl, List.map_singleton]
  by_cases x14 : kd = 14
  · subst x14
    refine (wd14 nm tx nu us ks a4 e4 lo v5 kv B K w hQ hM hP hK hKl hU).mono fun e w' h => h.cast ?_
    rw [← key [] rfl, List.map_nil, List.append_nil]
  have x15 : kd = 15 := by omega
  subst x15
  refine (wd15 nm tx nu us ks a4 e4 lo v5 kv B K w hQ hM hP hK hKl hU).mono fun e w' h => h.cast ?_
  rw [← key [] rfl, List.map_nil, List.append_nil]
end Go.Proofs.YtfaeckaeaeadeaaGreatDoor
