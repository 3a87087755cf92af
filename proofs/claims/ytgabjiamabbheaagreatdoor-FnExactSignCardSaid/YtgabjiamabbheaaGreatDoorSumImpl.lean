
/- SumOf, the program's side: a generic fold whose step is a method value. -/
import Derived.Test.YtgabjiamabbheaaGreatDoorSumSpec
import Derived.Test.YtgabjiamabbheaaGreatDoorBase
namespace Go.Proofs.YtgabjiamabbheaaGreatDoor
open Go.RowKit Go.Lib
set_option maxRecDepth 20000 in
set_option maxHeartbeats 1000000 in
theorem implLongName (d s : ByteArray) (x y : Int) (w : World) (hd : d.size ≤ 100000) (hs : s.size ≤ 100000) :
    Calls Tryz.prog 53 #[keyV d s x y] w fun e w' => e = .returned (.bool false) ∧ Below w.heap.size w w' := by
  have hA : ∀ ob, Below w.heap.size w (w.alloc ob) := fun ob => (Below.refl _ _).alloc (Nat.le_refl _) _
  have hD := fun w => implTooLong d w (by omega)
  have hS := fun w => implTooLong s w (by omega)
  rw [show decide ((100000 : Int) < (d.size : Int)) = false from decide_eq_false (by omega)] at hD
  rw [show decide ((100000 : Int) < (s.size : Int)) = false from decide_eq_false (by omega)] at hS
  go_enter Tryz.func53, Tryz.ntmps53
  go_wp2_with fail
  refine (hD _).mono ?_
  rintro e w2 ⟨rfl, rfl⟩
  go_wp2_with fail
  refine (hS _).mono ?_
  rintro e w2 ⟨rfl, rfl⟩
  go_wp2
  go_ret
  exact ⟨rfl, hA _⟩
set_option maxRecDepth 20000 in
theorem implFactor (x : Int) (w : World) : Calls Tryz.prog 79 #[.int .i64 x] w fun e w' => e = .returned (.bool (decide (1 ≤ x) && decide (x < 2147483647))) ∧ w = w' := by
  by_cases h1 : 1 ≤ x
  · rw [decide_eq_true h1, Bool.true_and]
    go_enter Tryz.func79, Tryz.ntmps79
    go_wp2
    go_ret
    exact ⟨rfl, rfl⟩
  · rw [decide_eq_false h1, Bool.false_and]
    go_enter Tryz.func79, Tryz.ntmps79
    go_wp2
    go_ret
    exact ⟨rfl, rfl⟩
set_option maxRecDepth 20000 in
set_option maxHeartbeats 1000000 in
theorem implRight (d s : ByteArray) (x y : Int) (w : World) :
    Calls Tryz.prog 51 #[keyV d s x y] w fun e w' => e = .returned (.bool (keyOk x y)) ∧ Below w.heap.size w w' := by
  have hA : ∀ ob, Below w.heap.size w (w.alloc ob) := fun ob => (Below.refl _ _).alloc (Nat.le_refl _) _
  have hX := fun w => implFactor x w
  have hY := fun w => implFactor y w
  unfold keyOk
  rw [← Bool.and_assoc]
  generalize (decide (1 ≤ x) && decide (x < 2147483647)) = bx at *
  generalize (decide (1 ≤ y) && decide (y < 2147483647)) = by' at *
  cases bx
  · rw [Bool.false_and]
    go_enter Tryz.func51, Tryz.ntmps51
    go_wp2_with fail
    refine (hX _).mono ?_
    rintro e w2 ⟨rfl, rfl⟩
    go_wp2
    go_ret
    exact ⟨rfl, hA _⟩
  · rw [Bool.true_and]
    go_enter Tryz.func51, Tryz.ntmps51
    go_wp2_with fail
    refine (hX _).mono ?_
    rintro e w2 ⟨rfl, rfl⟩
    go_wp2_with fail
    refine (hY _).mono ?_
    rintro e w2 ⟨rfl, rfl⟩
    go_wp2
    go_ret
    exact ⟨rfl, hA _⟩
set_option maxRecDepth 20000 in
set_option maxHeartbeats 1000000 in
theorem implSumWith (d s : ByteArray) (A B a b c : Nat) (w : World) (hA : A < 2147483647) (hB : B < 2147483647) (ha : a < 2147483647) (hb : b < 2147483647) (hc : c < 256) :
    Calls Tryz.prog 55 #[keyV d s A B, sumV a b, .int .u8 c] w fun e w' => e = .returned (sumV ((a * A + c + 1) % 2147483647) ((b * B + c + 1) % 2147483647)) ∧ Below w.heap.size w w' := by
  have hma := mul_bound a A ha hA
  have hmb := mul_bound b B hb hB
  obtain ⟨pa, hpa⟩ : ∃ pa, a * A = pa := ⟨_, rfl⟩
  obtain ⟨pb, hpb⟩ : ∃ pb, b * B = pb := ⟨_, rfl⟩
  rw [hpa] at hma ⊢
  rw [hpb] at hmb ⊢
  have ea : (a : Int) * (A : Int) = (pa : Int) := by rw [← hpa]; rfl
  have eb : (b : Int) * (B : Int) = (pb : Int) := by rw [← hpb]; rfl
  clear hpa hpb
  go_enter Tryz.func55, Tryz.ntmps55
  go_wp2
  refine bodyPost_ret (v := .agg #[.int .i64 (((pa : Int) + ((c : Int) + 1)) % 2147483647), .int .i64 (((pb : Int) + ((c : Int) + 1)) % 2147483647)]) (by simp [results, Tryz.results55, go_sem]) rfl ⟨?_, ?_⟩
  · have e1 : ((pa : Int) + ((c : Int) + 1)) % 2147483647 = (((pa + c + 1) % 2147483647 : Nat) : Int) := by omega
    have e2 : ((pb : Int) + ((c : Int) + 1)) % 2147483647 = (((pb + c + 1) % 2147483647 : Nat) : Int) := by omega
    rw [e1, e2]
  · exact (((Below.refl _ _).alloc (Nat.le_refl _) _).alloc (by simp) _).alloc (by simp; omega) _
set_option maxRecDepth 20000 in
theorem entersSum : ∀ (args : Array Value) (w : World), (callFunc 55 args).run Tryz.prog w = .ok (.enter 55 args) w := Go.Proofs.enters_of Tryz.func55 (by kernel_rfl) rfl
set_option maxRecDepth 20000 in
theorem wp_load_row {P : Program} {w : World} {o : Oper} {a : Act} {K : Act → World → Prop} {Q : Exit → Act → World → Prop} (ty : TypeId) (x : Operand) (ho : o.op = .load ty x)
    (g : Nat) (cs : Array Value) (t : TypeId) (fr : Nat × Nat) (d : TypeDesc) (hx : a.eval x = .pointer (some ⟨g, 0, none⟩)) (hgp : w.heap[g]? = some (.cells cs t fr))
    (hu : P.underlying ty = some d) (hd : (match d with | .struct _ | .array _ _ => true | _ => false) = true) (hi : (P.info? ty).map (·.size) = some cs.size)
    (h : K (a.put o.dst (.agg cs)) w) : Oper.wp P o a w K Q := by
  unfold Oper.wp execOp
  simp only [ho, hx, Instr.loadAt, Instr.sureAddr, Sem.run_bind, Sem.run_pure, Result.andThen_ok, run_loadVar_row w g t ty cs fr d hgp hu hd hi]
  exact h
set_option maxRecDepth 10000 in
set_option maxHeartbeats 2000000 in
theorem implGatherS (d s t : ByteArray) (A B : Nat) (w : World) (ht : t.size ≤ 200000) (hA : A < 2147483647) (hB : B < 2147483647) :
    Calls Tryz.prog 54 #[.string t, sumV 1 1, .func (.func 55) #[keyV d s A B] #[]] w fun e w' => e = .returned (sumV (Ps.sm A 1 t.data.toList) (Ps.sm B 1 t.data.toList)) ∧ Below w.heap.size w w' := by
  have hE := entersSum
  obtain ⟨RA, hRA⟩ : ∃ R, Ps.sm A 1 t.data.toList = R := ⟨_, rfl⟩
  obtain ⟨RB, hRB⟩ : ∃ R, Ps.sm B 1 t.data.toList = R := ⟨_, rfl⟩
  have HRA : Hid (Ps.sm A 1 (t.data.toList.drop 0) = RA) := hRA
  have HRB : Hid (Ps.sm B 1 (t.data.toList.drop 0) = RB) := hRB
  rw [hRA, hRB]
  clear hRA hRB
  have HW : Hid ((((w.alloc (.cells #[.int .i64 1, .int .i64 1] 44)).alloc (.cells #[.int .i64 0, .int .i64 0] 44)).heap[w.heap.size]? = some (.cells #[.int .i64 ((1 : Nat) : Int), .int .i64 ((1 : Nat) : Int)] 44 (0, 0))) ∧ ((w.alloc (.cells #[.int .i64 1, .int .i64 1] 44)).alloc (.cells #[.int .i64 0, .int .i64 0] 44)).heap[w.heap.size + 1]? = some (.cells #[.int .i64 0, .int .i64 0] 44 (0, 0))) := by
    constructor
    · exact (heap_alloc_old _ _ _ (by simp)).trans (heap_alloc_at _ _)
    · have := heap_alloc_at (w.alloc (.cells #[.int .i64 1, .int .i64 1] 44)) (.cells #[.int .i64 0, .int .i64 0] 44)
      simpa using this
  have HB0 : Hid (Below w.heap.size w ((w.alloc (.cells #[.int .i64 1, .int .i64 1] 44)).alloc (.cells #[.int .i64 0, .int .i64 0] 44))) := ((Below.refl _ _).alloc (Nat.le_refl _) _).alloc (by simp) _
  go_enter Tryz.func54, Tryz.ntmps54
  go_wp2
  go_loopw [7, 10] (fun _ i wr => ∃ (k a b : Nat), k ≤ t.size ∧ i = .int .i64 k ∧ a < 2147483647 ∧ b < 2147483647 ∧ Hid (Ps.sm A a (t.data.toList.drop k) = RA) ∧ Hid (Ps.sm B b (t.data.toList.drop k) = RB) ∧ Hid (wr.heap[w.heap.size]? = some (.cells #[.int .i64 (a : Int), .int .i64 (b : Int)] 44 (0, 0))) ∧ Hid (wr.heap[w.heap.size + 1]? = some (.cells #[.int .i64 0, .int .i64 0] 44 (0, 0))) ∧ Hid (Below w.heap.size w wr)) (fun _ i _ => t.size - (Lib.intOf i).toNat)
  case atStart => exact ⟨0, 1, 1, Nat.zero_le _, rfl, by omega, by omega, HRA, HRB, HW.out.1, HW.out.2, HB0⟩
  case round =>
    clear HRA HRB HW HB0
    obtain ⟨k, a, b, hk, rfl, ha, hb, HRA, HRB, HV, HO, HB⟩ := hrel
    by_cases hlt : k < t.size
    · have h8 : t[k].toNat < 256 := UInt8.toNat_lt _
      have stepA : Hid (Ps.sm A ((a * A + t[k].toNat + 1) % 2147483647) (t.data.toList.drop (k + 1)) = RA) := by
        have := HRA.out
        rw [List.drop_eq_getElem_cons (by simpa using hlt), Ps.sm] at this
        exact this
      have stepB : Hid (Ps.sm B ((b * B + t[k].toNat + 1) % 2147483647) (t.data.toList.drop (k + 1)) = RB) := by
        have := HRB.out
        rw [List.drop_eq_getElem_cons (by simpa using hlt), Ps.sm] at this
        exact this
      have hC := fun w => implSumWith d s A B a b t[k].toNat w hA hB ha hb h8
      have la : (a * A + t[k].toNat + 1) % 2147483647 < 2147483647 := Nat.mod_lt _ (by omega)
      have lb : (b * B + t[k].toNat + 1) % 2147483647 < 2147483647 := Nat.mod_lt _ (by omega)
      generalize hsk : t[k] = c at *
      generalize (a * A + c.toNat + 1) % 2147483647 = na at *
      generalize (b * B + c.toNat + 1) % 2147483647 = nb at *
      clear HRA HRB
      go_wp2
      have hV1 : ({ wr with drawn := wr.drawn + 1 } : World).heap[w.heap.size]? = some (.cells #[.int .i64 (a : Int), .int .i64 (b : Int)] 44 (0, 0)) := HV.out
      have HO1 : Hid (({ wr with drawn := wr.drawn + 1 } : World).heap[w.heap.size + 1]? = some (.cells #[.int .i64 0, .int .i64 0] 44 (0, 0))) := HO.out
      have HB1 : Hid (Below w.heap.size w { wr with drawn := wr.drawn + 1 }) := HB.out.drew
      refine wp_region_any (by kernel_rfl) ?_
      obtain ⟨V, hV⟩ : ∃ V : World, V = { wr with drawn := wr.drawn + 1 } := ⟨_, rfl⟩
      rw [← hV] at hV1 HO1 HB1 ⊢
      clear hV HV HO HB
      refine wpAny_take (i := 0) (v := .func (.func 55) #[keyV d s A B] #[]) rfl (by kernel_rfl) (by kernel_rfl) (by kernel_rfl) (fun _ _ _ h => h) (Or.inl ⟨by rfl, ?_⟩) ?_
      · intro w
        go_simp
      go_simp
      refine wpAny_take (i := 2) (v := .string t) rfl (by kernel_rfl) (by kernel_rfl) (by kernel_rfl) (fun _ _ _ h => h) (Or.inl ⟨by rfl, ?_⟩) ?_
      · intro w
        go_simp
      go_simp
      refine wpAny_take (i := 3) (v := .int .i64 (k : Int)) rfl (by kernel_rfl) (by kernel_rfl) (by kernel_rfl) (fun _ _ _ h => h) (Or.inl ⟨by rfl, ?_⟩) ?_
      · intro w
        go_simp
      go_simp
      refine wpAny_take (i := 4) (v := .int .u8 (c.toNat : Int)) rfl (by kernel_rfl) (by kernel_rfl) (by kernel_rfl) (fun _ _ _ h => h) (Or.inl ⟨by rfl, ?_⟩) ?_
      · intro w
        go_simp
      go_simp
      refine wpAny_ready (rs := [1]) (by kernel_rfl) (by simp) ?_
      refine AllReady.cons rfl (fun K hK => ?_) AllReady.nil
      split
      case isFalse hnw => exact absurd rfl hnw
      refine wp_load_row 44 _ rfl w.heap.size _ 44 (0, 0) _ rfl hV1 Tryz.underlying44 rfl (by kernel_rfl) ?_
      refine hK _ _ ?_
      clear hK K
      go_simp
      refine wpAny_ready (rs := [5]) (by kernel_rfl) (by simp) ?_
      refine AllReady.cons rfl (fun K hK => ?_) AllReady.nil
      go_simp
      refine (hC _).mono ?_
      rintro e w2 ⟨rfl, hb2⟩
      have hV2 := (hb2.block _ (heap_lt hV1)).trans hV1
      have HO2 : Hid (w2.heap[w.heap.size + 1]? = some (.cells #[.int .i64 0, .int .i64 0] 44 (0, 0))) := (hb2.block _ (heap_lt HO1.out)).trans HO1.out
      have HB2 : Hid (Below w.heap.size w w2) := HB1.out.trans (hb2.mono HB1.out.size)
      clear hb2 hV1 HO1 HB1 hC
      go_simp
      refine hK _ _ ?_
      clear hK K
      go_simp
      refine wpAny_ready (rs := [6]) (by kernel_rfl) (by simp) ?_
      refine AllReady.cons rfl (fun K hK => ?_) AllReady.nil
      split
      case isFalse hnw => exact absurd rfl hnw
      refine wp_store_row 44 _ _ rfl w.heap.size #[.int .i64 (na : Int), .int .i64 (nb : Int)] rfl rfl 44 _ hV2 (by kernel_rfl) rfl (by simp [Value.oneCell']) ?_
      refine hK _ _ ?_
      clear hK K
      refine wpAny_done (by kernel_rfl) ?_ _
      have HV3 : Hid ((w2.setRow w.heap.size #[.int .i64 (na : Int), .int .i64 (nb : Int)]).heap[w.heap.size]? = some (.cells #[.int .i64 (na : Int), .int .i64 (nb : Int)] 44 (0, 0))) := setRow_heap _ _ _ _ _ _ hV2
      have HO3 : Hid ((w2.setRow w.heap.size #[.int .i64 (na : Int), .int .i64 (nb : Int)]).heap[w.heap.size + 1]? = some (.cells #[.int .i64 0, .int .i64 0] 44 (0, 0))) := (setRow_other _ _ _ _ (by omega)).trans HO2.out
      have HB3 : Hid (Below w.heap.size w (w2.setRow w.heap.size #[.int .i64 (na : Int), .int .i64 (nb : Int)])) := HB2.out.grown (grown_setRow _ _ _) HB2.out.size (fun j hj => by cases hj; omega)
      go_wp2
      go_roundw
      case rel => exact ⟨k + 1, na, nb, by omega, by go_num, la, lb, stepA, stepB, HV3, HO3, HB3⟩
      case measure => simp [Lib.intOf]; omega
    · have ea : a = RA := by
        rw [← HRA.out, List.drop_eq_nil_of_le (by simp; omega)]; rfl
      have eb : b = RB := by
        rw [← HRB.out, List.drop_eq_nil_of_le (by simp; omega)]; rfl
      subst ea eb
      have hV := HV.out
      have hO := HO.out
      have hB := HB.out
      clear HRA HRB HV HO HB
      go_wp2_with (first | (refine wpL_store_row rfl 44 _ _ rfl (w.heap.size + 1) #[.int .i64 a, .int .i64 b] rfl rfl 44 _ hO (by kernel_rfl) rfl (by simp [Value.oneCell']) ?_) | (refine wpL_load_row rfl 44 _ rfl w.heap.size _ 44 (0, 0) _ rfl hV Tryz.underlying44 rfl (by kernel_rfl) ?_) | go_in)
      refine bodyPost_ret (v := sumV a b) (results_cell_row Tryz.results54 _ _ (w.heap.size + 1) 44 _ (0, 0) _ rfl (setRow_heap _ _ _ _ _ _ hO) Tryz.underlying44 rfl (by kernel_rfl)) rfl ⟨rfl, hB.grown (grown_setRow _ _ _) hB.size (fun j hj => by cases hj; omega)⟩
set_option maxRecDepth 20000 in
set_option maxHeartbeats 1000000 in
theorem implSum (d s t : ByteArray) (A B : Nat) (w : World) (hd : d.size ≤ 100000) (hs : s.size ≤ 100000) (ht : t.size ≤ 200000) (hA0 : 1 ≤ A) (hA : A < 2147483647) (hB0 : 1 ≤ B) (hB : B < 2147483647) :
    Calls Tryz.prog 23 #[keyV d s A B, .string t] w fun e w' => e = .returned (sumV (Ps.sm A 1 t.data.toList) (Ps.sm B 1 t.data.toList)) ∧ Below w.heap.size w w' := by
  have hL := fun w => implLongName d s A B w hd hs
  have hK := fun w => implRight d s A B w
  have hG := fun w => implGatherS d s t A B w ht hA hB
  rw [show keyOk (A : Int) (B : Int) = true from (keyOk_iff _ _).2 (by omega)] at hK
  obtain ⟨f0, f1, f2, f3⟩ := sumW_facts d s A B w
  generalize Ps.sm A 1 t.data.toList = RA at *
  generalize Ps.sm B 1 t.data.toList = RB at *
  go_enter Tryz.func23, Tryz.ntmps23
  go_wp2_with fail
  refine (hL _).mono ?_
  rintro e w2 ⟨rfl, hb2⟩
  have hres2 := (hb2.block (w.heap.size + 1) (by rw [f2]; omega)).trans f1
  have hkey2 := (hb2.block w.heap.size (by rw [f2]; omega)).trans f0
  have Hb2 : Hid (Below w.heap.size w w2) := f3.trans (hb2.mono f3.size)
  have q0 : w2.cell? ⟨w.heap.size, 0, none⟩ = some (.string d) := by simp [World.cell?, hkey2]
  have q1 : w2.cell? ⟨w.heap.size, 1, none⟩ = some (.string s) := by simp [World.cell?, hkey2]
  have q2 : w2.cell? ⟨w.heap.size, 2, none⟩ = some (.int .i64 A) := by simp [World.cell?, hkey2]
  have q3 : w2.cell? ⟨w.heap.size, 3, none⟩ = some (.int .i64 B) := by simp [World.cell?, hkey2]
  clear hL f0 f1 f2 f3 hb2
  go_wp2_with fail
  refine (hK _).mono ?_
  rintro e w3 ⟨rfl, hb3⟩
  have hres3 := (hb3.block _ (heap_lt hres2)).trans hres2
  have hkey3 := (hb3.block _ (heap_lt hkey2)).trans hkey2
  have Hb3 : Hid (Below w.heap.size w w3) := Hb2.out.trans (hb3.mono Hb2.out.size)
  clear hK hb3 hres2 hkey2 Hb2 q0 q1 q2 q3
  have q0 : w3.cell? ⟨w.heap.size, 0, none⟩ = some (.string d) := by simp [World.cell?, hkey3]
  have q1 : w3.cell? ⟨w.heap.size, 1, none⟩ = some (.string s) := by simp [World.cell?, hkey3]
  have q2 : w3.cell? ⟨w.heap.size, 2, none⟩ = some (.int .i64 A) := by simp [World.cell?, hkey3]
  have q3 : w3.cell? ⟨w.heap.size, 3, none⟩ = some (.int .i64 B) := by simp [World.cell?, hkey3]
  go_wp2_with fail
  refine (hG _).mono ?_
  rintro e w4 ⟨rfl, hb4⟩
  have hres4 := (hb4.block _ (heap_lt hres3)).trans hres3
  have hB4 := Hb3.out.trans (hb4.mono Hb3.out.size)
  clear hG hb4 hres3 hkey3 Hb3 q0 q1 q2 q3
  go_wp2_with (first | (refine wpL_store_row rfl 44 _ _ rfl (w.heap.size + 1) #[.int .i64 RA, .int .i64 RB] rfl rfl 44 _ hres4 (by kernel_rfl) rfl (by simp [Value.oneCell']) ?_) | go_in)
  refine bodyPost_ret (v := sumV RA RB) (results_cell_row Tryz.results23 _ _ (w.heap.size + 1) 44 _ (0, 0) _ rfl (setRow_heap _ _ _ _ _ _ hres4) Tryz.underlying44 rfl (by kernel_rfl)) rfl ⟨rfl, hB4.grown (grown_setRow _ _ _) hB4.size (fun j hj => by cases hj; omega)⟩
set_option maxRecDepth 20000 in
set_option maxHeartbeats 1000000 in
theorem implSumBad (d s t : ByteArray) (x y : Int) (w : World) (hd : d.size ≤ 100000) (hs : s.size ≤ 100000) (h : keyOk x y = false) :
    Calls Tryz.prog 23 #[keyV d s x y, .string t] w fun e w' => e = .returned (sumV 0 0) ∧ Below w.heap.size w w' := by
  have hL := fun w => implLongName d s x y w hd hs
  have hK := fun w => implRight d s x y w
  rw [h] at hK
  obtain ⟨f0, f1, f2, f3⟩ := sumW_facts d s x y w
  go_enter Tryz.func23, Tryz.ntmps23
  go_wp2_with fail
  refine (hL _).mono ?_
  rintro e w2 ⟨rfl, hb2⟩
  have hres2 := (hb2.block (w.heap.size + 1) (by rw [f2]; omega)).trans f1
  have hkey2 := (hb2.block w.heap.size (by rw [f2]; omega)).trans f0
  have Hb2 : Hid (Below w.heap.size w w2) := f3.trans (hb2.mono f3.size)
  have q0 : w2.cell? ⟨w.heap.size, 0, none⟩ = some (.string d) := by simp [World.cell?, hkey2]
  have q1 : w2.cell? ⟨w.heap.size, 1, none⟩ = some (.string s) := by simp [World.cell?, hkey2]
  have q2 : w2.cell? ⟨w.heap.size, 2, none⟩ = some (.int .i64 x) := by simp [World.cell?, hkey2]
  have q3 : w2.cell? ⟨w.heap.size, 3, none⟩ = some (.int .i64 y) := by simp [World.cell?, hkey2]
  clear hL f0 f1 f2 f3 hb2
  go_wp2_with fail
  refine (hK _).mono ?_
  rintro e w3 ⟨rfl, hb3⟩
  have hres3 := (hb3.block _ (heap_lt hres2)).trans hres2
  have hB3 := Hb2.out.trans (hb3.mono Hb2.out.size)
  clear hK hb3 hres2 hkey2 Hb2 q0 q1 q2 q3
  go_wp2_with (first | (refine wpL_store_row rfl 44 _ _ rfl (w.heap.size + 1) #[.int .i64 0, .int .i64 0] rfl rfl 44 _ hres3 (by kernel_rfl) rfl (by simp [Value.oneCell']) ?_) | go_in)
  refine bodyPost_ret (v := sumV 0 0) (results_cell_row Tryz.results23 _ _ (w.heap.size + 1) 44 _ (0, 0) _ rfl (setRow_heap _ _ _ _ _ _ hres3) Tryz.underlying44 rfl (by kernel_rfl)) rfl ⟨rfl, hB3.grown (grown_setRow _ _ _) hB3.size (fun j hj => by cases hj; omega)⟩
end Go.Proofs.YtgabjiamabbheaaGreatDoor
