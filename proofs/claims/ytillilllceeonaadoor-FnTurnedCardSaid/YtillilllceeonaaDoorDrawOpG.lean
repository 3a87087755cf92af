
/- A source of draws: any operations on a store. -/
import Derived.Test.YtillilllceeonaaDoorDrawOpF
import Derived.Deep.OwnRows
namespace Go.Proofs.YtillilllceeonaaDoor
open Go.RowKit Go.Lib Go.Maps
set_option maxRecDepth 20000 in
theorem made_len {z : Value} (n : Nat) : (madeCells #[z] n).size = n := by
  have := size_madeCells #[z] n
  simpa using this
set_option maxRecDepth 20000 in
theorem wrap_inG (n : Int) (h0 : -9223372036854775808 ≤ n) (h1 : n ≤ 9223372036854775807) : IntKind.i64.wrap n = n := by
  have e : ∀ m : Int, IntKind.i64.wrap m = (m + 9223372036854775808) % 18446744073709551616 - 9223372036854775808 := fun m => by simp [IntKind.wrap, IntKind.bits, IntKind.signed]; omega
  rw [e]
  omega
set_option maxRecDepth 20000 in
theorem opAppNe {w : World} {o : Oper} {a : Act} {K : Act → World → Prop} {Q : Exit → Act → World → Prop} (s x : Operand)
    (ho : o.op = .call { callee := .builtin .append, args := #[s, x], argTypes := #[23, 23] })
    (B : Nat) (v : Value) (C : List Int) (hs : a.eval s = v) (hown : OwnN B v C w) (u : Int) (g c : Nat) (hx : a.eval x = .slice (some ⟨g, 0, none⟩) 1 c) (hnew : w.heap[g]? = some (.cells #[.int .i64 u] 2 (0, 0))) (hlen : C.length ≤ 1000000) (hB : B ≤ w.heap.size)
    (h : ∀ v' w', OwnN B v' (C ++ [u]) w' → w.grownBy w' v.ownBlock → K (a.put o.dst v') w') : o.wp Tryd.prog a w K Q := by
  obtain ⟨i0, hi0, hz0, hz1, hz2⟩ := info_parts Tryd.info2
  unfold OwnN at hown
  obtain ⟨v', w', hr, h2, h3, h4, h5⟩ := run_append_own_at (P := Tryd.prog) w B 23 o.type 2 i0 (.int .i64 0) 1 8 Tryd.underlying23 hi0 hz0 hz1 hz2 rfl (by decide) v C.length (numCells C) hown ⟨g, 0, none⟩ 1 c [.int .i64 u] rfl (by
    intro j y hj
    match j, hj with
    | 0, hj => simp at hj; subst hj; simp [Addr.add, World.cell?, hnew]) (by
    intro y hy
    simp at hy
    subst hy
    rfl) (by unfold maxLen; omega) (by omega) hB
  unfold Oper.wp execOp
  simp only [ho, resolve, invoke, builtin, Sem.run_bind, Sem.run_pure, Result.andThen_ok, List.map_toArray, List.map_cons, List.map_nil, hs, hx, hr]
  refine h v' w' ?_ h3
  unfold OwnN numCells
  rw [List.map_append, List.length_append]
  exact h2
def a5Fact (tv : Value) (Bk g B : Nat) (j : Nat) (v : Value) (w : World) : Prop :=
  match j with
  | 0 => v = .pointer (some ⟨Bk, 4, none⟩)
  | 1 => v = tv
  | 2 => v = .pointer (some ⟨g, 0, none⟩)
  | 3 => numM 0 3 v
  | 4 => numM 254 257 v
  | 5 => ∃ (b n9 : Nat), v = .slice (some ⟨b, 0, none⟩) n9 n9 ∧ B ≤ b ∧ w.heap[b]? = some (.cells (madeCells #[.int .u8 0] n9) 5 (0, 0)) ∧ n9 < 257
  | 6 => txtM 256 v
  | 7 => ∃ (b : Nat) (t : ByteArray), v = .slice (some ⟨b, 0, none⟩) 1 1 ∧ B ≤ b ∧ w.heap[b]? = some (.cells #[.string t] 9 (0, 0)) ∧ t.size ≤ 256
  | _ => True
def a5Dst (j : Nat) : Nat :=
  match j with
  | 0 => 51
  | 1 => 52
  | 2 => 53
  | 3 => 54
  | 4 => 55
  | 5 => 56
  | 6 => 57
  | 7 => 58
  | _ => 999
set_option maxRecDepth 20000 in
theorem a5Fact.gr {tv : Value} {Bk g B : Nat} (hB : g < B) (j : Nat) (v : Value) (w w' : World) (h : a5Fact tv Bk g B j v w) (hg : w.grownBy w' (some g)) : a5Fact tv Bk g B j v w' := by
  unfold a5Fact at h ⊢
  have key : ∀ (b : Nat) (ob : Obj), B ≤ b → w.heap[b]? = some ob → w'.heap[b]? = some ob := fun b ob hb h3 => by rw [hg.block b (hp_lt h3) (by intro e; have := Option.some.inj e; omega)]; exact h3
  split
  case h_6 =>
    obtain ⟨b, t, h1, h2, h3, h4⟩ := h
    exact ⟨b, t, h1, h2, key _ _ h2 h3, h4⟩
  case h_8 =>
    obtain ⟨b, t, h1, h2, h3, h4⟩ := h
    exact ⟨b, t, h1, h2, key _ _ h2 h3, h4⟩
  all_goals first
    | exact h
    | trivial
def a2Fact (tv : Value) (Bk g B : Nat) (j : Nat) (v : Value) (w : World) : Prop :=
  match j with
  | 0 => v = .pointer (some ⟨Bk, 3, none⟩)
  | 1 => v = tv
  | 2 => ∃ (b _k : Nat), v = .slice (some ⟨b, 0, none⟩) 3 3 ∧ B ≤ b ∧ w.heap[b]? = some (.cells #[.int .i64 (-1), .int .i64 4294967295, .int .i64 4294967296] 2 (0, 0)) ∧ True
  | 3 => v = .pointer (some ⟨g, 0, none⟩)
  | 4 => numM 0 3 v
  | 5 => ∃ (b k : Nat), v = .pointer (some ⟨b, k, none⟩) ∧ B ≤ b ∧ w.heap[b]? = some (.cells #[.int .i64 (-1), .int .i64 4294967295, .int .i64 4294967296] 2 (0, 0)) ∧ k < 3
  | 6 => ∃ k9 : Int, v = .int .i64 k9 ∧ -1 ≤ k9 ∧ k9 ≤ 4294967296
  | 7 => ∃ (b : Nat) (k9 : Int), v = .slice (some ⟨b, 0, none⟩) 1 1 ∧ B ≤ b ∧ w.heap[b]? = some (.cells #[.int .i64 k9] 2 (0, 0)) ∧ -1 ≤ k9 ∧ k9 ≤ 4294967296
  | _ => True
def a2Dst (j : Nat) : Nat :=
  match j with
  | 0 => 25
  | 1 => 26
  | 2 => 27
  | 3 => 28
  | 4 => 29
  | 5 => 30
  | 6 => 31
  | 7 => 32
  | _ => 999
set_option maxRecDepth 20000 in
theorem a2Fact.gr {tv : Value} {Bk g B : Nat} (hB : g < B) (j : Nat) (v : Value) (w w' : World) (h : a2Fact tv Bk g B j v w) (hg : w.grownBy w' (some g)) : a2Fact tv Bk g B j v w' := by
  unfold a2Fact at h ⊢
  have key : ∀ (b : Nat) (ob : Obj), B ≤ b → w.heap[b]? = some ob → w'.heap[b]? = some ob := fun b ob hb h3 => by rw [hg.block b (hp_lt h3) (by intro e; have := Option.some.inj e; omega)]; exact h3
  split
  case h_3 =>
    obtain ⟨b, t, h1, h2, h3, h4⟩ := h
    exact ⟨b, t, h1, h2, key _ _ h2 h3, h4⟩
  case h_6 =>
    obtain ⟨b, t, h1, h2, h3, h4⟩ := h
    exact ⟨b, t, h1, h2, key _ _ h2 h3, h4⟩
  case h_8 =>
    obtain ⟨b, t, h1, h2, h3, h4⟩ := h
    exact ⟨b, t, h1, h2, key _ _ h2 h3, h4⟩
  all_goals first
    | exact h
    | trivial
def AnySt (w : World) (g : Nat) (o : Option Addr) (cl cp z R Bk : Nat) (W : World) : Prop := ∃ q : OpP, q.ok ∧ w.grownBy W (some g) ∧ (∃ a', Src W g o cl cp a' z) ∧ W.heap[R]? = some (.cells #[.int .i64 0, .string ⟨#[]⟩, .string ⟨#[]⟩, .slice none 0 0, .slice none 0 0, .int .i64 0, .int .i64 0, .string ⟨#[]⟩] 26 (0, 0)) ∧ OpAt w.heap.size Bk q W
set_option maxRecDepth 40000 in
set_option maxHeartbeats 16000000 in
theorem srcAnyOp (g : Nat) (o : Option Addr) (c : List UInt8) (cp a z : Nat) (w : World) (h : Src w g o c.length cp a z) (hc : Code g w o c) (ha : a ≤ 300000000000) (hl : c.length ≤ 1048576) (hz : z ≤ 12) :
    Calls Tryd.prog 11 #[.pointer (some ⟨g, 0, none⟩)] w fun e w' => ∃ (q : OpP) (uo fo : Option Addr) (uc fc a' : Nat), e = .returned (.agg #[.int .i64 q.k, .string q.bx, .string q.tt, .slice uo q.U.length uc, .slice fo q.P.length fc, .int .i64 q.tm, .int .i64 q.md, .string q.ms]) ∧ q.ok ∧ OwnN w.heap.size (.slice uo q.U.length uc) q.U w' ∧ OwnX w.heap.size (.slice fo q.P.length fc) q.P w' ∧ Src w' g o c.length cp a' z ∧ w.grownBy w' (some g) := by
  have HC : Hid (Code g w o c) := hc
  have hgl := h.lt
  have Hs := mkHid h
  have Hg : Hid (w.grownBy w (some g)) := gr_refl _ _
  clear h hc
  go_enter Tryd.func11, Tryd.ntmps11
  obtain ⟨W1, hW1⟩ : ∃ W, w.alloc (.cells #[.int .i64 0, .string ⟨#[]⟩, .string ⟨#[]⟩, .slice none 0 0, .slice none 0 0, .int .i64 0, .int .i64 0, .string ⟨#[]⟩] 26) = W := ⟨_, rfl⟩
  have b1 : Below w.heap.size w W1 := by rw [← hW1]; exact (Below.refl _ _).alloc (Nat.le_refl _) _
  obtain ⟨R, hR⟩ : ∃ R, R = w.heap.size := ⟨_, rfl⟩
  have HR0 : Hid (W1.heap[R]? = some (.cells #[.int .i64 0, .string ⟨#[]⟩, .string ⟨#[]⟩, .slice none 0 0, .slice none 0 0, .int .i64 0, .int .i64 0, .string ⟨#[]⟩] 26 (0, 0))) := by rw [← hW1, hR]; exact hp_alloc _ _
  have Hs1 := mkHid (Hs.out.below b1)
  have Hg1 : Hid (w.grownBy W1 (some g)) := gr_below b1
  have HW1 := mkHid hW1
  have hRg : g < R := by omega
  have hRw : w.heap.size ≤ R := by omega
  have HRe := mkHid hR
  have hS := srcOp g o c cp a z W1 Hs1.out (HC.out.grown Hg1.out (Nat.le_refl _)) (by omega) hl hz
  clear b1 hW1 Hs Hg hR
  go_wp2_with fail
  rw [HW1.out, ← HRe.out]
  refine hS.mono ?_
  rintro e w2 ⟨q, uo, fo, uc, fc, a2, rfl, hq, hU, hP, ha2, hs2, hg2⟩
  have hR2 := hp_alloc w2 (.cells #[.int .i64 0, .string ⟨#[]⟩, .string ⟨#[]⟩, .slice none 0 0, .slice none 0 0, .int .i64 0, .int .i64 0, .string ⟨#[]⟩] 26)
  go_wp2_with (refine wpL_store_row rfl 26 _ _ rfl w2.heap.size _ rfl rfl 26 _ hR2 (by kernel_rfl) rfl (by simp [Value.oneCell']) ?_; refine Hid.out ?_)
  obtain ⟨V5, hV5⟩ : ∃ V, (w2.alloc (.cells #[.int .i64 0, .string ⟨#[]⟩, .string ⟨#[]⟩, .slice none 0 0, .slice none 0 0, .int .i64 0, .int .i64 0, .string ⟨#[]⟩] 26)).setRow w2.heap.size #[.int .i64 q.k, .string q.bx, .string q.tt, .slice uo q.U.length uc, .slice fo q.P.length fc, .int .i64 q.tm, .int .i64 q.md, .string q.ms] = V := ⟨_, rfl⟩
  have hb5 := below_row hV5
  have HB5 : V5.heap[w2.heap.size]? = some (.cells #[.int .i64 q.k, .string q.bx, .string q.tt, .slice uo q.U.length uc, .slice fo q.P.length fc, .int .i64 q.tm, .int .i64 q.md, .string q.ms] 26 (0, 0)) := by rw [← hV5]; exact setRow_heap _ _ _ _ _ _ hR2
  rw [hV5]
  obtain ⟨Bk, hBk⟩ : ∃ Bk, Bk = w2.heap.size := ⟨_, rfl⟩
  rw [← hBk] at HB5 ⊢
  have hG2 := gr_trans Hg1.out hg2
  have hBkg : g < Bk := by rw [hBk]; exact hs2.lt
  have hBkw : w.heap.size ≤ Bk := by rw [hBk]; exact hG2.size
  have hR3 := (hg2.block R (hp_lt HR0.out) (by intro e; have := Option.some.inj e; omega)).trans HR0.out
  have hRB : R < Bk := by rw [hBk]; exact hp_lt hR3
  have hw1 : w.heap.size ≤ W1.heap.size := Hg1.out.size
  have Hs := mkHid (hs2.below hb5)
  have Hg := mkHid (gr_trans hG2 (gr_below hb5))
  have HR : Hid (V5.heap[R]? = some (.cells #[.int .i64 0, .string ⟨#[]⟩, .string ⟨#[]⟩, .slice none 0 0, .slice none 0 0, .int .i64 0, .int .i64 0, .string ⟨#[]⟩] 26 (0, 0))) := (hb5.block R (hp_lt hR3)).trans hR3
  have HOp : Hid (OpAt w.heap.size Bk q V5) := ⟨uo, fo, uc, fc, HB5, (OwnN.baseD hU hw1).below hb5, (OwnX.baseD hP hw1).below hb5⟩
  have Hq0 := mkHid hq
  obtain ⟨aX, haX⟩ : ∃ q9, q9 = a2 := ⟨_, rfl⟩
  rw [← haX] at Hs
  replace haX : aX ≤ a + 1700200 := by omega
  clear hS hR2 hV5 hb5 HB5 hBk hG2 hR3 hU hP hs2 hg2 hq Hs1 Hg1 HR0 hw1 ha2
  refine mkHid ?_
  have hO := srcOne g o c cp aX z 10 V5 Hs.out (HC.out.grown Hg.out (Nat.le_refl _)) (by omega) hl (by omega) (by omega)
  go_wp2_with fail
  refine hO.mono ?_
  rintro e w8 ⟨b8, rfl, hs8, hg8⟩
  have Hs8 := mkHid hs8
  have Hg8 := mkHid (gr_trans Hg.out hg8)
  have HR8 : Hid (w8.heap[R]? = some (.cells #[.int .i64 0, .string ⟨#[]⟩, .string ⟨#[]⟩, .slice none 0 0, .slice none 0 0, .int .i64 0, .int .i64 0, .string ⟨#[]⟩] 26 (0, 0))) := (hg8.block R (hp_lt HR.out) (by intro e; have := Option.some.inj e; omega)).trans HR.out
  have HOp8 := mkHid (HOp.out.gr hg8 hgl (by omega))
  clear hO hs8 hg8 Hs Hg HR HOp
  go_upto_if 7 with fail
  go_cut [] from 4 (fun wc => Hid (AnySt w g o c.length cp z R Bk wc))
  case first =>
    cases b8 with
    | false =>
      go_wp2
      go_meet
      case rel => exact ⟨q, Hq0.out.1, Hg8.out, ⟨_, Hs8.out⟩, HR8.out, HOp8.out⟩
    | true =>
      have hN := srcN g o c cp (aX + 1) z 7 w8 Hs8.out (HC.out.grown Hg8.out (Nat.le_refl _)) (by omega) hl (by omega) (by omega)
      go_wp2_with fail
      refine hN.mono ?_
      rintro e w9 ⟨v9, rfl, hv9, hs9, hg9⟩
      have Hs9 := mkHid hs9
      have Hg9 := mkHid (gr_trans Hg8.out hg9)
      have HR9 : Hid (w9.heap[R]? = some (.cells #[.int .i64 0, .string ⟨#[]⟩, .string ⟨#[]⟩, .slice none 0 0, .slice none 0 0, .int .i64 0, .int .i64 0, .string ⟨#[]⟩] 26 (0, 0))) := (hg9.block R (hp_lt HR8.out) (by intro e; have := Option.some.inj e; omega)).trans HR8.out
      have HOp9 := mkHid (HOp8.out.gr hg9 hgl (by omega))
      clear hN hs9 hg9 Hs8 Hg8 HR8 HOp8
      by_cases hvk : v9 = 0
      · have e0 : ((v9 : Int) == 0) = true := by rw [hvk]; rfl
        clear hvk
        have hN2 := srcN g o c cp (aX + 1 + 1) z 12 w9 Hs9.out (HC.out.grown Hg9.out (Nat.le_refl _)) (by omega) hl (by omega) (by omega)
        go_wp2_with fail
        refine hN2.mono ?_
        rintro e w20 ⟨v20, rfl, hv20, hs20, hg20⟩
        have Hs20 := mkHid hs20
        have Hg20 := mkHid (gr_trans Hg9.out hg20)
        have HR20 : Hid (w20.heap[R]? = some (.cells #[.int .i64 0, .string ⟨#[]⟩, .string ⟨#[]⟩, .slice none 0 0, .slice none 0 0, .int .i64 0, .int .i64 0, .string ⟨#[]⟩] 26 (0, 0))) := (hg20.block R (hp_lt HR9.out) (by intro e; have := Option.some.inj e; omega)).trans HR9.out
        have HOp20 := mkHid (HOp9.out.gr hg20 hgl (by omega))
        clear hN2 hs20 hg20 Hs9 Hg9 HR9 HOp9
        obtain ⟨x0, x1, x2, x5, x6, x7, xf⟩ := HOp20.out.cells
        have xfa := xf 0
        have HSf : Hid (AnySt w g o c.length cp z R Bk (w20.setCell ⟨Bk, 0, none⟩ (.int .i64 (v20 : Int)))) := by
          obtain ⟨q1, q2, q3, q4, q5, q6, q7, q8, q9, q10⟩ := Hq0.out.1
          exact ⟨{ q with k := (v20 : Int) }, ⟨⟨by show (-10 : Int) ≤ (v20 : Int); omega, by show (v20 : Int) ≤ 100; omega⟩, q2, q3, q4, q5, q6, q7, q8, q9, q10⟩, gr_setC Hg20.out hBkw, ⟨_, Hs20.out.setC (by omega)⟩, (set_other (by omega)).trans HR20.out, HOp20.out.setK _⟩
        clear Hs20 Hg20 HR20 HOp20 Hq0
        go_wp2
        go_meet
        case rel => exact HSf
      by_cases hvk : v9 = 1
      · have e0 : ((v9 : Int) == 0) = false := beq_eq_false_iff_ne.2 (by omega)
        have e1 : ((v9 : Int) == 1) = true := by rw [hvk]; rfl
        clear hvk
        have hN2 := srcN g o c cp (aX + 1 + 1) z 3 w9 Hs9.out (HC.out.grown Hg9.out (Nat.le_refl _)) (by omega) hl (by omega) (by omega)
        go_wp2_with fail
        refine hN2.mono ?_
        rintro e w20 ⟨v20, rfl, hv20, hs20, hg20⟩
        have Hs20 := mkHid hs20
        have Hg20 := mkHid (gr_trans Hg9.out hg20)
        have HR20 : Hid (w20.heap[R]? = some (.cells #[.int .i64 0, .string ⟨#[]⟩, .string ⟨#[]⟩, .slice none 0 0, .slice none 0 0, .int .i64 0, .int .i64 0, .string ⟨#[]⟩] 26 (0, 0))) := (hg20.block R (hp_lt HR9.out) (by intro e; have := Option.some.inj e; omega)).trans HR9.out
        have HOp20 := mkHid (HOp9.out.gr hg20 hgl (by omega))
        clear hN2 hs20 hg20 Hs9 Hg9 HR9 HOp9
        obtain ⟨n9, hn9⟩ : ∃ n : Nat, n = 254 + v20 := ⟨_, rfl⟩
        have hn9i : (254 : Int) + (v20 : Int) = (n9 : Int) := by omega
        have hn9b : n9 ≤ 256 := by omega
        have hmk := run_make_row' (P := Tryd.prog) 22 5 (.int .u8 0) 1 Tryd.underlying22 Tryd.info5 rfl .i64 .i64 n9 (by omega) (by omega) w20
        obtain ⟨VM, hVM⟩ : ∃ V, w20.alloc (.cells (madeCells #[.int .u8 0] n9) 5) = V := ⟨_, rfl⟩
        have bM : Below w20.heap.size w20 VM := by rw [← hVM]; exact (Below.refl _ _).alloc (Nat.le_refl _) _
        rw [hVM] at hmk
        have hUM : Own w.heap.size (.slice (some ⟨w20.heap.size, 0, none⟩) n9 n9) (List.replicate n9 (0 : UInt8)) VM := by
          unfold Own
          rw [List.length_replicate]
          exact ⟨by simp [byteCells], .inr ⟨w20.heap.size, n9, _, rfl, Hg20.out.size, by rw [← hVM]; exact hp_alloc _ _, Nat.le_refl _, by unfold maxLen; omega, by rw [size_madeCells, Nat.mul_one], by rw [toList_madeCells_one, Nat.mul_one]; simp [byteCells]⟩⟩
        have hcv := hUM.back (P := Tryd.prog) 22 9 Tryd.underlying22 Tryd.underlying5 Tryd.underlying9
        obtain ⟨t20, ht20⟩ : ∃ t : ByteArray, ⟨(List.replicate n9 (0 : UInt8)).toArray⟩ = t := ⟨_, rfl⟩
        have hz20 : t20.size ≤ 256 := by rw [← ht20]; show (List.replicate n9 (0 : UInt8)).toArray.size ≤ 256; rw [List.size_toArray, List.length_replicate]; omega
        rw [ht20] at hcv
        have hOM := HOp20.out.below bM
        obtain ⟨x0, x1, x2, x5, x6, x7, xf⟩ := hOM.cells
        have xfa := xf 1
        have HSf : Hid (AnySt w g o c.length cp z R Bk (VM.setCell ⟨Bk, 1, none⟩ (.string t20))) := by
          obtain ⟨q1, q2, q3, q4, q5, q6, q7, q8, q9, q10⟩ := Hq0.out.1
          exact ⟨{ q with bx := t20 }, ⟨q1, by show t20.size ≤ 300; omega, q3, q4, q5, q6, q7, q8, q9, q10⟩, gr_setC (gr_trans Hg20.out (gr_below bM)) hBkw, ⟨_, (Hs20.out.below bM).setC (by omega)⟩, (set_other (by omega)).trans ((bM.block R (hp_lt HR20.out)).trans HR20.out), hOM.setBx _⟩
        clear hn9 hVM bM hUM hOM ht20 Hs20 Hg20 HR20 HOp20 Hq0
        go_wp2
        go_meet
        case rel => exact HSf
      by_cases hvk : v9 = 2
      · have e0 : ((v9 : Int) == 0) = false := beq_eq_false_iff_ne.2 (by omega)
        have e1 : ((v9 : Int) == 1) = false := beq_eq_false_iff_ne.2 (by omega)
        have e2 : ((v9 : Int) == 2) = true := by rw [hvk]; rfl
        clear hvk
        obtain ⟨uo, fo, uc, fc, hB9, hU9, hP9⟩ := HOp9.out
        have HBq := mkHid hB9
        have HU9 := mkHid hU9
        have HP9 := mkHid hP9
        have HCW : Hid (Code g w9 o c) := HC.out.grown Hg9.out (Nat.le_refl _)
        have hgr0 : g < w9.heap.size := Hs9.out.lt
        have hBk9 : Bk < w9.heap.size := hp_lt hB9
        have HB4 : Hid (w9.cell? ⟨Bk, 3, none⟩ = some (.slice uo q.U.length uc)) := by show _ = _; simp [World.cell?, hB9]
        have HG : Hid (GoneBy w9 g o c.length cp (aX + 1 + 1) z 0 w9.drew) := ⟨gr_below (Below.refl _ _).drew, aX + 1 + 1, by omega, Hs9.out.below (Below.refl _ _).drew⟩
        have hPl : q.P.length ≤ 4 := Hq0.out.2.1
        have hUl : q.U.length ≤ 4 := Hq0.out.2.2
        clear hB9 hU9 hP9
        go_wp2
        refine wp_region_any (by kernel_rfl) ?_
        refine wpAny_phase 8 3 #[true, true, true, true, true, true, true, true, false, false, false] a2Dst (fun x => rgActF [_, _, _, _, _, _, _, _, _, _, _, _, _, _, _, _, _, _, _, _, _, _, _, _, _] [x 25, x 26, x 27, x 28, x 29, x 30, x 31, x 32] [_, _, _, _, _, _, _, _, _, _, _, _, _, _, _, _, _, _, _, _, _, _, _, _, _, _, _, _, _, _, _, _, _, _, _, _]) (a2Fact (.slice uo q.U.length uc) Bk g w9.heap.size) (fun k w => GoneBy w9 g o c.length cp (aX + 1 + 1) z k w) (fun w w' => w.grownBy w' (some g)) rfl rfl (by decide) rfl (by kernel_rfl) (by kernel_rfl) ?_ (a2Fact.gr hgr0) ?hend ?hstep _ _ 0 (fun _ => undef) _ rfl rfl rfl (by intro j hj; simp [Array.getD]) ?_ HG.out ?_
        · intro i j hi hj hne
          have e1 : ∀ q, q < 8 → ∀ r, r < 8 → q ≠ r → a2Dst q ≠ a2Dst r := by decide
          exact e1 j hj i hi hne
        case hend =>
          intro x wq hG hf
          have f1 : x 26 = .slice uo q.U.length uc := hf 1 (by decide)
          obtain ⟨b, k9, e4, hb, hbk, hft⟩ := hf 7 (by decide)
          have e4' : x 32 = .slice (some ⟨b, 0, none⟩) 1 1 := e4
          obtain ⟨hgq, a2, ha2, hs2⟩ := hG
          have hPq : OwnX w.heap.size (.slice fo q.P.length fc) q.P wq := HP9.out.grG hgq hgl
          have hUq : OwnN w.heap.size (.slice uo q.U.length uc) q.U wq := HU9.out.grG hgq hgl
          have hBq := (hgq.block Bk hBk9 (by intro e; have := Option.some.inj e; omega)).trans HBq.out
          have hRq := (hgq.block R (hp_lt HR9.out) (by intro e; have := Option.some.inj e; omega)).trans HR9.out
          have hGq := gr_trans Hg9.out hgq
          have hsq : w.heap.size ≤ wq.heap.size := hGq.size
          clear hf e4
          refine wpAny_ready (rs := [8]) (by kernel_rfl) (by simp) ?_
          refine AllReady.cons rfl (fun K hK => ?_) AllReady.nil
          rw [if_pos (by rfl)]
          refine opAppNe _ _ rfl w.heap.size (.slice uo q.U.length uc) q.U f1 hUq k9 b 1 e4' hbk (by omega) hsq ?_
          intro v' w' hO' hG'
          refine hK _ _ ?_
          clear hK K
          have hnB := row_not_block hUq hBq (by decide)
          have hnR := row_not_block hUq hRq (by decide)
          have hB3 := (hG'.block Bk (hp_lt hBq) (fun e => hnB Bk e.symm rfl)).trans hBq
          have hR3 := (hG'.block R (hp_lt hRq) (fun e => hnR R e.symm rfl)).trans hRq
          have hP3 : OwnX w.heap.size (.slice fo q.P.length fc) q.P w' := World.ownsRow.kept hPq hG' (own_apartA (show wq.ownsRow w.heap.size 9 1 _ _ _ from hPq) (show wq.ownsRow w.heap.size 2 1 _ _ _ from hUq) (by decide))
          have hs3 : Src w' g o c.length cp a2 z := hs2.row hG' (fun k hk => by have := (World.ownsRow.lt hUq k hk).1; omega)
          have hg3 : w.grownBy w' (some g) := gr_row hGq hG' (fun k hk => (World.ownsRow.lt hUq k hk).1)
          obtain ⟨o2, c2, rfl⟩ := hO'.shape
          have hc3 : w'.cell? ⟨Bk, 3, none⟩ = some (.slice uo q.U.length uc) := by simp [World.cell?, hB3]
          have hf3 : w'.frozen? ⟨Bk, 3, none⟩ = false := by simp [World.frozen?, hB3]
          have HSf : Hid (AnySt w g o c.length cp z R Bk (w'.setCell ⟨Bk, 3, none⟩ (.slice o2 (q.U ++ [k9]).length c2))) := by
            obtain ⟨q1, q2, q3, q4, q5, q6, q7, q8, q9, q10⟩ := Hq0.out.1
            have hl9 : (q.U ++ [k9]).length ≤ 5 := by rw [List.length_append]; show q.U.length + 1 ≤ 5; omega
            refine ⟨{ q with U := q.U ++ [k9] }, ?_, gr_setC hg3 hBkw, ⟨a2, hs3.setC (by omega)⟩, (set_other (by omega)).trans hR3, o2, fo, c2, fc, by simp [World.setCell, Array.getElem?_modify, hB3], row_stay hO' fun k hk => set_other (row_not_block hO' hB3 (by decide) k hk), row_stay hP3 fun k hk => set_other (row_not_block hP3 hB3 (by decide) k hk)⟩
            refine ⟨q1, q2, q3, by show (q.U ++ [k9]).length ≤ 310; omega, fun u hu => ?_, q6, q7, q8, q9, q10⟩
            rcases List.mem_append.1 hu with hu | hu
            · exact q5 u hu
            · simp only [List.mem_cons, List.not_mem_nil, or_false] at hu
              subst hu
              omega
          obtain ⟨n2, hn2⟩ : ∃ n, (q.U ++ [k9]).length = n := ⟨_, rfl⟩
          rw [hn2] at HSf
          rw [hn2]
          clear hn2 hO' hG' hB3 hR3 hP3 hs3 hg3 hPq hUq hBq hRq hGq hs2 hgq hbk hnB hnR HBq HU9 HP9 HG HB4 Hs9 Hg9 HR9 HOp9 Hq0
          show wpAny _ _ _ _ 2 _ (rgActF [_, _, _, _, _, _, _, _, _, _, _, _, _, _, _, _, _, _, _, _, _, _, _, _, _] [x 25, x 26, x 27, x 28, x 29, x 30, x 31, x 32] (.slice o2 n2 c2 :: [_, _, _, _, _, _, _, _, _, _, _, _, _, _, _, _, _, _, _, _, _, _, _, _, _, _, _, _, _, _, _, _, _, _, _])) _
          generalize x 25 = y25
          generalize x 26 = y26
          generalize x 27 = y27
          generalize x 28 = y28
          generalize x 29 = y29
          generalize x 30 = y30
          generalize x 31 = y31
          generalize x 32 = y32
          go_simp
          refine wpAny_ready (rs := [9]) (by kernel_rfl) (by simp) ?_
          refine AllReady.cons rfl (fun K hK => ?_) AllReady.nil
          go_simp
          refine hK _ _ ?_
          clear hK K
          go_simp
          refine wpAny_ready (rs := [10]) (by kernel_rfl) (by simp) ?_
          refine AllReady.cons rfl (fun K hK => ?_) AllReady.nil
          go_simp
          refine hK _ _ ?_
          clear hK K
          go_simp
          refine wpAny_done (by kernel_rfl) ?_ _
          go_simp
          go_wp2
          go_meet
          case rel => exact HSf
        case hstep =>
          intro k2 x L wr i hil hkl hG hi hf
          rcases (show i = 0 ∨ i = 1 ∨ i = 2 ∨ i = 3 ∨ i = 4 ∨ i = 5 ∨ i = 6 ∨ i = 7 by omega) with rfl | rfl | rfl | rfl | rfl | rfl | rfl | rfl
          · clear hi hf
            refine wpOp_step rfl (fun K hK => ?_)
            go_simp
            exact hK _ _ ⟨.pointer (some ⟨Bk, 3, none⟩), by simp [put, a2Dst], rfl, gr_refl _ _, hG.still (Below.refl _ _)⟩
          · have e0 : x 25 = .pointer (some ⟨Bk, 3, none⟩) := hf 0 (by omega) (ready_dep hi rfl 0 (by kernel_rfl))
            clear hi hf
            have hcel : wr.cell? ⟨Bk, 3, none⟩ = some (.slice uo q.U.length uc) := gr_cell hG.1 (show Bk ≠ g by omega) HB4.out
            refine wpOp_step rfl (fun K hK => ?_)
            go_simp
            exact hK _ _ ⟨.slice uo q.U.length uc, by simp [put, a2Dst, e0], rfl, gr_refl _ _, hG.still (Below.refl _ _)⟩
          · clear hi hf
            refine wpOp_step rfl (fun K hK => ?_)
            go_simp
            have hbb : ∀ cs, Below wr.heap.size wr (wr.alloc (.cells cs 2)) := fun cs => (Below.refl _ _).alloc (Nat.le_refl _) _
            exact hK _ _ ⟨.slice (some ⟨wr.heap.size, 0, none⟩) 3 3, by simp [put, a2Dst], ⟨wr.heap.size, 0, rfl, hG.1.size, hp_alloc _ _, trivial⟩, gr_below (hbb _), hG.still (hbb _)⟩
          · clear hi hf
            refine wpOp_step rfl (fun K hK => ?_)
            go_simp
            exact hK _ _ ⟨.pointer (some ⟨g, 0, none⟩), by simp [put, a2Dst], rfl, gr_refl _ _, hG.still (Below.refl _ _)⟩
          · have e0 : x 28 = .pointer (some ⟨g, 0, none⟩) := hf 3 (by omega) (ready_dep hi rfl 3 (by kernel_rfl))
            clear hi hf
            obtain ⟨hgr, a1, ha1, hs1⟩ := hG
            have hN := srcN g o c cp a1 z 3 wr hs1 (HCW.out.grown hgr (Nat.le_refl _)) (by omega) hl (by omega) (by omega)
            refine wpOp_step rfl (fun K hK => ?_)
            go_simp
            refine hN.mono ?_
            rintro e w2 ⟨v, rfl, hv, hs2, hg2⟩
            go_simp
            exact hK _ _ ⟨.int .i64 (v : Int), by simp [put, a2Dst, e0], ⟨v, rfl, Nat.zero_le _, by omega⟩, hg2, gr_trans hgr hg2, a1 + 1, by omega, hs2⟩
          · have f0 := hf 2 (by omega) (ready_dep hi rfl 2 (by kernel_rfl))
            have f2 := hf 4 (by omega) (ready_dep hi rfl 4 (by kernel_rfl))
            clear hi hf
            obtain ⟨b, -, e0, hb, hbk, -⟩ := f0
            obtain ⟨k2, e1, -, hk⟩ := f2
            have hk3 : (k2 : Int) < 3 := by omega
            have e0' : x 27 = .slice (some ⟨b, 0, none⟩) 3 3 := e0
            have e1' : x 29 = .int .i64 k2 := e1
            clear e0 e1
            refine wpOp_step rfl (fun K hK => ?_)
            go_simp
            exact hK _ _ ⟨.pointer (some ⟨b, k2, none⟩), by simp [put, a2Dst, e0', e1'], ⟨b, k2, rfl, hb, hbk, hk⟩, gr_refl _ _, hG.still (Below.refl _ _)⟩
          · have f3 := hf 5 (by omega) (ready_dep hi rfl 5 (by kernel_rfl))
            clear hi hf
            obtain ⟨b, k2, e0, hb, hbk, hk⟩ := f3
            have e0' : x 30 = .pointer (some ⟨b, k2, none⟩) := e0
            obtain ⟨k9, hc, hk9⟩ : ∃ k9 : Int, wr.cell? ⟨b, k2, none⟩ = some (.int .i64 k9) ∧ -1 ≤ k9 ∧ k9 ≤ 4294967296 := by
              rcases (show k2 = 0 ∨ k2 = 1 ∨ k2 = 2 by omega) with rfl | rfl | rfl
              · exact ⟨-1, by simp [World.cell?, hbk], by decide, by decide⟩
              · exact ⟨4294967295, by simp [World.cell?, hbk], by decide, by decide⟩
              · exact ⟨4294967296, by simp [World.cell?, hbk], by decide, by decide⟩
            clear e0
            refine wpOp_step rfl (fun K hK => ?_)
            go_simp
            exact hK _ _ ⟨.int .i64 k9, by simp [put, a2Dst, e0'], ⟨k9, rfl, hk9⟩, gr_refl _ _, hG.still (Below.refl _ _)⟩
          · have f3 := hf 6 (by omega) (ready_dep hi rfl 6 (by kernel_rfl))
            clear hi hf
            obtain ⟨k9, e0, ht⟩ := f3
            have e0' : x 31 = .int .i64 k9 := e0
            clear e0
            refine wpOp_step rfl (fun K hK => ?_)
            go_simp
            have hbb : ∀ cs, Below wr.heap.size wr (wr.alloc (.cells cs 2)) := fun cs => (Below.refl _ _).alloc (Nat.le_refl _) _
            exact hK _ _ ⟨.slice (some ⟨wr.heap.size, 0, none⟩) 1 1, by simp [put, a2Dst, e0'], ⟨wr.heap.size, k9, rfl, hG.1.size, hp_alloc _ _, ht⟩, gr_below (hbb _), hG.still (hbb _)⟩
        · intro k2 j hk2
          simp [Array.getD] at hk2
        · intro j hj hd
          simp [Array.getD] at hd
      by_cases hvk : v9 = 3
      · have e0 : ((v9 : Int) == 0) = false := beq_eq_false_iff_ne.2 (by omega)
        have e1 : ((v9 : Int) == 1) = false := beq_eq_false_iff_ne.2 (by omega)
        have e2 : ((v9 : Int) == 2) = false := beq_eq_false_iff_ne.2 (by omega)
        have e3 : ((v9 : Int) == 3) = true := by rw [hvk]; rfl
        clear hvk
        have hbA : ∀ cs, Below w9.heap.size w9 (w9.alloc (.cells cs 2)) := fun cs => (Below.refl _ _).alloc (Nat.le_refl _) _
        have hN2 := fun cs => srcN g o c cp (aX + 1 + 1) z 3 (w9.alloc (.cells cs 2)) (Hs9.out.below (hbA cs)) (HC.out.grown (gr_trans Hg9.out (gr_below (hbA cs))) (Nat.le_refl _)) (by omega) hl (by omega) (by omega)
        have hgl9 : g < w9.heap.size := Hs9.out.lt
        go_wp2_with fail
        refine (hN2 _).mono ?_
        rintro e w20 ⟨v20, rfl, hv20, hs20, hg20⟩
        obtain ⟨k20, hc20, hk20a, hk20b⟩ := num_at2 (lo := -1) (hi := 253402300800) hg20 hgl9 (show v20 < 3 by omega) (by decide)
        have hl20 : v20 < 3 := by omega
        have hg21 := gr_trans (gr_below (hbA _)) hg20
        have Hs20 := mkHid hs20
        have Hg20 := mkHid (gr_trans Hg9.out hg21)
        have HR20 : Hid (w20.heap[R]? = some (.cells #[.int .i64 0, .string ⟨#[]⟩, .string ⟨#[]⟩, .slice none 0 0, .slice none 0 0, .int .i64 0, .int .i64 0, .string ⟨#[]⟩] 26 (0, 0))) := (hg21.block R (hp_lt HR9.out) (by intro e; have := Option.some.inj e; omega)).trans HR9.out
        have HOp20 := mkHid (HOp9.out.gr hg21 hgl (by omega))
        clear hN2 hs20 hg20 hg21 hbA hgl9 Hs9 Hg9 HR9 HOp9
        obtain ⟨x0, x1, x2, x5, x6, x7, xf⟩ := HOp20.out.cells
        have xfa := xf 5
        have HSf : Hid (AnySt w g o c.length cp z R Bk (w20.setCell ⟨Bk, 5, none⟩ (.int .i64 k20))) := by
          obtain ⟨q1, q2, q3, q4, q5, q6, q7, q8, q9, q10⟩ := Hq0.out.1
          exact ⟨{ q with tm := k20 }, ⟨q1, q2, q3, q4, q5, q6, q7, ⟨by show (-1 : Int) ≤ k20; omega, by show k20 ≤ 300000000000; omega⟩, q9, q10⟩, gr_setC Hg20.out hBkw, ⟨_, Hs20.out.setC (by omega)⟩, (set_other (by omega)).trans HR20.out, HOp20.out.setTm _⟩
        clear Hs20 Hg20 HR20 HOp20 Hq0
        go_wp2
        go_meet
        case rel => exact HSf
      by_cases hvk : v9 = 4
      · have e0 : ((v9 : Int) == 0) = false := beq_eq_false_iff_ne.2 (by omega)
        have e1 : ((v9 : Int) == 1) = false := beq_eq_false_iff_ne.2 (by omega)
        have e2 : ((v9 : Int) == 2) = false := beq_eq_false_iff_ne.2 (by omega)
        have e3 : ((v9 : Int) == 3) = false := beq_eq_false_iff_ne.2 (by omega)
        have e4 : ((v9 : Int) == 4) = true := by rw [hvk]; rfl
        clear hvk
        have hN2 := srcN g o c cp (aX + 1 + 1) z 2 w9 Hs9.out (HC.out.grown Hg9.out (Nat.le_refl _)) (by omega) hl (by omega) (by omega)
        go_wp2_with fail
        refine hN2.mono ?_
        rintro e w20 ⟨v20, rfl, hv20, hs20, hg20⟩
        have Hs20 := mkHid hs20
        have Hg20 := mkHid (gr_trans Hg9.out hg20)
        have HR20 : Hid (w20.heap[R]? = some (.cells #[.int .i64 0, .string ⟨#[]⟩, .string ⟨#[]⟩, .slice none 0 0, .slice none 0 0, .int .i64 0, .int .i64 0, .string ⟨#[]⟩] 26 (0, 0))) := (hg20.block R (hp_lt HR9.out) (by intro e; have := Option.some.inj e; omega)).trans HR9.out
        have HOp20 := mkHid (HOp9.out.gr hg20 hgl (by omega))
        clear hN2 hs20 hg20 Hs9 Hg9 HR9 HOp9
        obtain ⟨x0, x1, x2, x5, x6, x7, xf⟩ := HOp20.out.cells
        have xfa := xf 6
        have HSf : Hid (AnySt w g o c.length cp z R Bk (w20.setCell ⟨Bk, 6, none⟩ (.int .i64 (4294967295 + (v20 : Int))))) := by
          obtain ⟨q1, q2, q3, q4, q5, q6, q7, q8, q9, q10⟩ := Hq0.out.1
          exact ⟨{ q with md := (4294967295 + (v20 : Int)) }, ⟨q1, q2, q3, q4, q5, q6, q7, q8, ⟨by show (-1 : Int) ≤ 4294967295 + (v20 : Int); omega, by show 4294967295 + (v20 : Int) ≤ 5000000000; omega⟩, q10⟩, gr_setC Hg20.out hBkw, ⟨_, Hs20.out.setC (by omega)⟩, (set_other (by omega)).trans HR20.out, HOp20.out.setMd _⟩
        clear Hs20 Hg20 HR20 HOp20 Hq0
        go_wp2
        go_meet
        case rel => exact HSf
      by_cases hvk : v9 = 5
      · have e0 : ((v9 : Int) == 0) = false := beq_eq_false_iff_ne.2 (by omega)
        have e1 : ((v9 : Int) == 1) = false := beq_eq_false_iff_ne.2 (by omega)
        have e2 : ((v9 : Int) == 2) = false := beq_eq_false_iff_ne.2 (by omega)
        have e3 : ((v9 : Int) == 3) = false := beq_eq_false_iff_ne.2 (by omega)
        have e4 : ((v9 : Int) == 4) = false := beq_eq_false_iff_ne.2 (by omega)
        have e5 : ((v9 : Int) == 5) = true := by rw [hvk]; rfl
        clear hvk
        obtain ⟨uo, fo, uc, fc, hB9, hU9, hP9⟩ := HOp9.out
        have HBq := mkHid hB9
        have HU9 := mkHid hU9
        have HP9 := mkHid hP9
        have HCW : Hid (Code g w9 o c) := HC.out.grown Hg9.out (Nat.le_refl _)
        have hgr0 : g < w9.heap.size := Hs9.out.lt
        have hBk9 : Bk < w9.heap.size := hp_lt hB9
        have HB4 : Hid (w9.cell? ⟨Bk, 4, none⟩ = some (.slice fo q.P.length fc)) := by show _ = _; simp [World.cell?, hB9]
        have HG : Hid (GoneBy w9 g o c.length cp (aX + 1 + 1) z 0 w9.drew) := ⟨gr_below (Below.refl _ _).drew, aX + 1 + 1, by omega, Hs9.out.below (Below.refl _ _).drew⟩
        have hPl : q.P.length ≤ 4 := Hq0.out.2.1
        have hUl : q.U.length ≤ 4 := Hq0.out.2.2
        clear hB9 hU9 hP9
        go_wp2
        refine wp_region_any (by kernel_rfl) ?_
        refine wpAny_phase 8 3 #[true, true, true, true, true, true, true, true, false, false, false] a5Dst (fun x => rgActF [_, _, _, _, _, _, _, _, _, _, _, _, _, _, _, _, _, _, _, _, _, _, _, _, _, _, _, _, _, _, _, _, _, _, _, _, _, _, _, _, _, _, _, _, _, _, _, _, _, _, _] [x 51, x 52, x 53, x 54, x 55, x 56, x 57, x 58] [_, _, _, _, _, _, _, _, _, _]) (a5Fact (.slice fo q.P.length fc) Bk g w9.heap.size) (fun k w => GoneBy w9 g o c.length cp (aX + 1 + 1) z k w) (fun w w' => w.grownBy w' (some g)) rfl rfl (by decide) rfl (by kernel_rfl) (by kernel_rfl) ?_ (a5Fact.gr hgr0) ?hend ?hstep _ _ 0 (fun _ => undef) _ rfl rfl rfl (by intro j hj; simp [Array.getD]) ?_ HG.out ?_
        · intro i j hi hj hne
          have e1 : ∀ q, q < 8 → ∀ r, r < 8 → q ≠ r → a5Dst q ≠ a5Dst r := by decide
          exact e1 j hj i hi hne
        case hend =>
          intro x wq hG hf
          have f1 : x 52 = .slice fo q.P.length fc := hf 1 (by decide)
          obtain ⟨b, t, e4, hb, hbk, hft⟩ := hf 7 (by decide)
          have e4' : x 58 = .slice (some ⟨b, 0, none⟩) 1 1 := e4
          obtain ⟨hgq, a2, ha2, hs2⟩ := hG
          have hPq : OwnX w.heap.size (.slice fo q.P.length fc) q.P wq := HP9.out.grG hgq hgl
          have hUq : OwnN w.heap.size (.slice uo q.U.length uc) q.U wq := HU9.out.grG hgq hgl
          have hBq := (hgq.block Bk hBk9 (by intro e; have := Option.some.inj e; omega)).trans HBq.out
          have hRq := (hgq.block R (hp_lt HR9.out) (by intro e; have := Option.some.inj e; omega)).trans HR9.out
          have hGq := gr_trans Hg9.out hgq
          have hsq : w.heap.size ≤ wq.heap.size := hGq.size
          clear hf e4
          refine wpAny_ready (rs := [8]) (by kernel_rfl) (by simp) ?_
          refine AllReady.cons rfl (fun K hK => ?_) AllReady.nil
          rw [if_pos (by rfl)]
          refine opAppXe _ _ rfl w.heap.size (.slice fo q.P.length fc) q.P f1 hPq t b 1 e4' hbk (by omega) hsq ?_
          intro v' w' hO' hG'
          refine hK _ _ ?_
          clear hK K
          have hnB := row_not_block hPq hBq (by decide)
          have hnR := row_not_block hPq hRq (by decide)
          have hB3 := (hG'.block Bk (hp_lt hBq) (fun e => hnB Bk e.symm rfl)).trans hBq
          have hR3 := (hG'.block R (hp_lt hRq) (fun e => hnR R e.symm rfl)).trans hRq
          have hU3 : OwnN w.heap.size (.slice uo q.U.length uc) q.U w' := World.ownsRow.kept hUq hG' (own_apartA (show wq.ownsRow w.heap.size 2 1 _ _ _ from hUq) (show wq.ownsRow w.heap.size 9 1 _ _ _ from hPq) (by decide))
          have hs3 : Src w' g o c.length cp a2 z := hs2.row hG' (fun k hk => by have := (World.ownsRow.lt hPq k hk).1; omega)
          have hg3 : w.grownBy w' (some g) := gr_row hGq hG' (fun k hk => (World.ownsRow.lt hPq k hk).1)
          obtain ⟨o2, c2, rfl⟩ := hO'.shape
          have hc3 : w'.cell? ⟨Bk, 4, none⟩ = some (.slice fo q.P.length fc) := by simp [World.cell?, hB3]
          have hf3 : w'.frozen? ⟨Bk, 4, none⟩ = false := by simp [World.frozen?, hB3]
          have HSf : Hid (AnySt w g o c.length cp z R Bk (w'.setCell ⟨Bk, 4, none⟩ (.slice o2 (q.P ++ [t]).length c2))) := by
            obtain ⟨q1, q2, q3, q4, q5, q6, q7, q8, q9, q10⟩ := Hq0.out.1
            have hl9 : (q.P ++ [t]).length ≤ 5 := by rw [List.length_append]; show q.P.length + 1 ≤ 5; omega
            refine ⟨{ q with P := q.P ++ [t] }, ?_, gr_setC hg3 hBkw, ⟨a2, hs3.setC (by omega)⟩, (set_other (by omega)).trans hR3, uo, o2, uc, c2, by simp [World.setCell, Array.getElem?_modify, hB3], row_stay hU3 fun k hk => set_other (row_not_block hU3 hB3 (by decide) k hk), row_stay hO' fun k hk => set_other (row_not_block hO' hB3 (by decide) k hk)⟩
            refine ⟨q1, q2, q3, q4, q5, by show (q.P ++ [t]).length ≤ 10; omega, fun u hu => ?_, q8, q9, q10⟩
            rcases List.mem_append.1 hu with hu | hu
            · exact q7 u hu
            · simp only [List.mem_cons, List.not_mem_nil, or_false] at hu
              subst hu
              omega
          obtain ⟨n2, hn2⟩ : ∃ n, (q.P ++ [t]).length = n := ⟨_, rfl⟩
          rw [hn2] at HSf
          rw [hn2]
          clear hn2 hO' hG' hB3 hR3 hU3 hs3 hg3 hPq hUq hBq hRq hGq hs2 hgq hbk hnB hnR HBq HU9 HP9 HG HB4 Hs9 Hg9 HR9 HOp9 Hq0
          show wpAny _ _ _ _ 2 _ (rgActF [_, _, _, _, _, _, _, _, _, _, _, _, _, _, _, _, _, _, _, _, _, _, _, _, _, _, _, _, _, _, _, _, _, _, _, _, _, _, _, _, _, _, _, _, _, _, _, _, _, _, _] [x 51, x 52, x 53, x 54, x 55, x 56, x 57, x 58] (.slice o2 n2 c2 :: [_, _, _, _, _, _, _, _, _])) _
          generalize x 51 = y51
          generalize x 52 = y52
          generalize x 53 = y53
          generalize x 54 = y54
          generalize x 55 = y55
          generalize x 56 = y56
          generalize x 57 = y57
          generalize x 58 = y58
          go_simp
          refine wpAny_ready (rs := [9]) (by kernel_rfl) (by simp) ?_
          refine AllReady.cons rfl (fun K hK => ?_) AllReady.nil
          go_simp
          refine hK _ _ ?_
          clear hK K
          go_simp
          refine wpAny_ready (rs := [10]) (by kernel_rfl) (by simp) ?_
          refine AllReady.cons rfl (fun K hK => ?_) AllReady.nil
          go_simp
          refine hK _ _ ?_
          clear hK K
          go_simp
          refine wpAny_done (by kernel_rfl) ?_ _
          go_simp
          go_wp2
          go_meet
          case rel => exact HSf
        case hstep =>
          intro k2 x L wr i hil hkl hG hi hf
          rcases (show i = 0 ∨ i = 1 ∨ i = 2 ∨ i = 3 ∨ i = 4 ∨ i = 5 ∨ i = 6 ∨ i = 7 by omega) with rfl | rfl | rfl | rfl | rfl | rfl | rfl | rfl
          · clear hi hf
            refine wpOp_step rfl (fun K hK => ?_)
            go_simp
            exact hK _ _ ⟨.pointer (some ⟨Bk, 4, none⟩), by simp [put, a5Dst], rfl, gr_refl _ _, hG.still (Below.refl _ _)⟩
          · have e0 : x 51 = .pointer (some ⟨Bk, 4, none⟩) := hf 0 (by omega) (ready_dep hi rfl 0 (by kernel_rfl))
            clear hi hf
            have hcel : wr.cell? ⟨Bk, 4, none⟩ = some (.slice fo q.P.length fc) := gr_cell hG.1 (show Bk ≠ g by omega) HB4.out
            refine wpOp_step rfl (fun K hK => ?_)
            go_simp
            exact hK _ _ ⟨.slice fo q.P.length fc, by simp [put, a5Dst, e0], rfl, gr_refl _ _, hG.still (Below.refl _ _)⟩
          · clear hi hf
            refine wpOp_step rfl (fun K hK => ?_)
            go_simp
            exact hK _ _ ⟨.pointer (some ⟨g, 0, none⟩), by simp [put, a5Dst], rfl, gr_refl _ _, hG.still (Below.refl _ _)⟩
          · have e0 : x 53 = .pointer (some ⟨g, 0, none⟩) := hf 2 (by omega) (ready_dep hi rfl 2 (by kernel_rfl))
            clear hi hf
            obtain ⟨hgr, a1, ha1, hs1⟩ := hG
            have hN := srcN g o c cp a1 z 3 wr hs1 (HCW.out.grown hgr (Nat.le_refl _)) (by omega) hl (by omega) (by omega)
            refine wpOp_step rfl (fun K hK => ?_)
            go_simp
            refine hN.mono ?_
            rintro e w2 ⟨v, rfl, hv, hs2, hg2⟩
            go_simp
            exact hK _ _ ⟨.int .i64 (v : Int), by simp [put, a5Dst, e0], ⟨v, rfl, Nat.zero_le _, by omega⟩, hg2, gr_trans hgr hg2, a1 + 1, by omega, hs2⟩
          · have f3 := hf 3 (by omega) (ready_dep hi rfl 3 (by kernel_rfl))
            clear hi hf
            obtain ⟨k2, e0, -, hk2⟩ := f3
            have e0' : x 54 = .int .i64 k2 := e0
            have wk : IntKind.i64.wrap (254 + (k2 : Int)) = 254 + (k2 : Int) := wrap_inG _ (by omega) (by omega)
            clear e0
            refine wpOp_step rfl (fun K hK => ?_)
            go_simp
            exact hK _ _ ⟨.int .i64 (254 + (k2 : Int)), by simp [put, a5Dst, e0'], ⟨254 + k2, by go_num, by omega, by omega⟩, gr_refl _ _, hG.still (Below.refl _ _)⟩
          · have f4 := hf 4 (by omega) (ready_dep hi rfl 4 (by kernel_rfl))
            clear hi hf
            obtain ⟨n9, e0, -, hn9⟩ := f4
            have e0' : x 55 = .int .i64 n9 := e0
            have hmk := run_make_row' (P := Tryd.prog) 22 5 (.int .u8 0) 1 Tryd.underlying22 Tryd.info5 rfl .i64 .i64 n9 (by omega) (by omega) wr
            clear e0
            refine wpOp_step rfl (fun K hK => ?_)
            go_simp
            have hbb : Below wr.heap.size wr (wr.alloc (.cells (madeCells #[.int .u8 0] n9) 5)) := (Below.refl _ _).alloc (Nat.le_refl _) _
            refine hK _ _ ⟨.slice (some ⟨wr.heap.size, 0, none⟩) n9 n9, by simp [put, a5Dst, e0'], ⟨wr.heap.size, n9, rfl, hG.1.size, hp_alloc _ _, hn9⟩, gr_below hbb, hG.still hbb⟩
          · have f5 := hf 5 (by omega) (ready_dep hi rfl 5 (by kernel_rfl))
            clear hi hf
            obtain ⟨b, n9, e0, hb, hbk, hn9⟩ := f5
            have e0' : x 56 = .slice (some ⟨b, 0, none⟩) n9 n9 := e0
            have hUM : Own 0 (.slice (some ⟨b, 0, none⟩) n9 n9) (List.replicate n9 (0 : UInt8)) wr := by
              unfold Own
              rw [List.length_replicate]
              exact ⟨by simp [byteCells], .inr ⟨b, n9, _, rfl, Nat.zero_le _, hbk, Nat.le_refl _, by unfold maxLen; omega, by rw [size_madeCells, Nat.mul_one], by rw [toList_madeCells_one, Nat.mul_one]; simp [byteCells]⟩⟩
            have hcv := hUM.back (P := Tryd.prog) 22 9 Tryd.underlying22 Tryd.underlying5 Tryd.underlying9
            obtain ⟨t20, ht20⟩ : ∃ t : ByteArray, ⟨(List.replicate n9 (0 : UInt8)).toArray⟩ = t := ⟨_, rfl⟩
            have hz20 : t20.size ≤ 256 := by rw [← ht20]; show (List.replicate n9 (0 : UInt8)).toArray.size ≤ 256; rw [List.size_toArray, List.length_replicate]; omega
            rw [ht20] at hcv
            clear e0 hUM ht20
            refine wpOp_step rfl (fun K hK => ?_)
            go_simp
            exact hK _ _ ⟨.string t20, by simp [put, a5Dst, e0'], ⟨t20, rfl, hz20⟩, gr_refl _ _, hG.still (Below.refl _ _)⟩
          · have f3 := hf 6 (by omega) (ready_dep hi rfl 6 (by kernel_rfl))
            clear hi hf
            obtain ⟨t, e0, ht⟩ := f3
            have e0' : x 57 = .string t := e0
            clear e0
            refine wpOp_step rfl (fun K hK => ?_)
            go_simp
            have hbb : ∀ cs, Below wr.heap.size wr (wr.alloc (.cells cs 9)) := fun cs => (Below.refl _ _).alloc (Nat.le_refl _) _
            exact hK _ _ ⟨.slice (some ⟨wr.heap.size, 0, none⟩) 1 1, by simp [put, a5Dst, e0'], ⟨wr.heap.size, t, rfl, hG.1.size, hp_alloc _ _, ht⟩, gr_below (hbb _), hG.still (hbb _)⟩
        · intro k2 j hk2
          simp [Array.getD] at hk2
        · intro j hj hd
          simp [Array.getD] at hd
      by_cases hvk : v9 = 6
      · have e0 : ((v9 : Int) == 0) = false := beq_eq_false_iff_ne.2 (by omega)
        have e1 : ((v9 : Int) == 1) = false := beq_eq_false_iff_ne.2 (by omega)
        have e2 : ((v9 : Int) == 2) = false := beq_eq_false_iff_ne.2 (by omega)
        have e3 : ((v9 : Int) == 3) = false := beq_eq_false_iff_ne.2 (by omega)
        have e4 : ((v9 : Int) == 4) = false := beq_eq_false_iff_ne.2 (by omega)
        have e5 : ((v9 : Int) == 5) = false := beq_eq_false_iff_ne.2 (by omega)
        have e6 : ((v9 : Int) == 6) = true := by rw [hvk]; rfl
        clear hvk
        have hN2 := srcN g o c cp (aX + 1 + 1) z 3 w9 Hs9.out (HC.out.grown Hg9.out (Nat.le_refl _)) (by omega) hl (by omega) (by omega)
        go_wp2_with fail
        refine hN2.mono ?_
        rintro e w20 ⟨v20, rfl, hv20, hs20, hg20⟩
        have Hs20 := mkHid hs20
        have Hg20 := mkHid (gr_trans Hg9.out hg20)
        have HR20 : Hid (w20.heap[R]? = some (.cells #[.int .i64 0, .string ⟨#[]⟩, .string ⟨#[]⟩, .slice none 0 0, .slice none 0 0, .int .i64 0, .int .i64 0, .string ⟨#[]⟩] 26 (0, 0))) := (hg20.block R (hp_lt HR9.out) (by intro e; have := Option.some.inj e; omega)).trans HR9.out
        have HOp20 := mkHid (HOp9.out.gr hg20 hgl (by omega))
        clear hN2 hs20 hg20 Hs9 Hg9 HR9 HOp9
        obtain ⟨n9, hn9⟩ : ∃ n : Nat, n = 299 + v20 := ⟨_, rfl⟩
        have hn9i : (299 : Int) + (v20 : Int) = (n9 : Int) := by omega
        have hn9b : n9 ≤ 301 := by omega
        have hmk := run_make_row' (P := Tryd.prog) 23 2 (.int .i64 0) 8 Tryd.underlying23 Tryd.info2 rfl .i64 .i64 n9 (by omega) (by omega) w20
        obtain ⟨uo, fo, uc, fc, hB9, hU9, hP9⟩ := HOp20.out
        obtain ⟨VM, hVM⟩ : ∃ V, w20.alloc (.cells (madeCells #[.int .i64 0] n9) 2) = V := ⟨_, rfl⟩
        have bM : Below w20.heap.size w20 VM := by rw [← hVM]; exact (Below.refl _ _).alloc (Nat.le_refl _) _
        rw [hVM] at hmk
        have hUM : OwnN w.heap.size (.slice (some ⟨w20.heap.size, 0, none⟩) (List.replicate n9 (0 : Int)).length n9) (List.replicate n9 0) VM := by
          unfold OwnN
          rw [List.length_replicate]
          exact ⟨by simp [numCells], .inr ⟨w20.heap.size, n9, _, rfl, Hg20.out.size, by rw [← hVM]; exact hp_alloc _ _, Nat.le_refl _, by unfold maxLen; omega, by rw [size_madeCells, Nat.mul_one], by rw [toList_madeCells_one, Nat.mul_one]; simp [numCells]⟩⟩
        have hBM := (bM.block Bk (hp_lt hB9)).trans hB9
        have hPM := hP9.below bM
        have hc3 : VM.cell? ⟨Bk, 3, none⟩ = some (.slice uo q.U.length uc) := by simp [World.cell?, hBM]
        have hf3 : VM.frozen? ⟨Bk, 3, none⟩ = false := by simp [World.frozen?, hBM]
        have HSf : Hid (AnySt w g o c.length cp z R Bk (VM.setCell ⟨Bk, 3, none⟩ (.slice (some ⟨w20.heap.size, 0, none⟩) n9 n9))) := by
          obtain ⟨q1, q2, q3, q4, q5, q6, q7, q8, q9, q10⟩ := Hq0.out.1
          refine ⟨{ q with U := List.replicate n9 0 }, ⟨q1, q2, q3, by show (List.replicate n9 (0 : Int)).length ≤ 310; rw [List.length_replicate]; omega, fun u hu => by have := (List.mem_replicate.1 hu).2; omega, q6, q7, q8, q9, q10⟩, gr_setC (gr_trans Hg20.out (gr_below bM)) hBkw, ⟨_, (Hs20.out.below bM).setC (by omega)⟩, (set_other (by omega)).trans ((bM.block R (hp_lt HR20.out)).trans HR20.out), some ⟨w20.heap.size, 0, none⟩, fo, n9, fc, ?_, ?_, row_stay hPM fun k hk => set_other (row_not_block hPM hBM (by decide) k hk)⟩
          · simp [World.setCell, Array.getElem?_modify, hBM]
          · exact row_stay hUM fun k hk => set_other (row_not_block hUM hBM (by decide) k hk)
        clear hn9 hVM bM hUM hBM hPM hB9 hU9 hP9 Hs20 Hg20 HR20 HOp20 Hq0
        go_wp2
        go_meet
        case rel => exact HSf
      omega
  case rest =>
    clear Hs8 Hg8 HR8 HOp8 Hq0 haX
    obtain ⟨q9, hq9, hgW, ⟨aY, hsX⟩, hRX, uo, fo, uc, fc, hBX, hUX, hPX⟩ := hcut.out
    clear hcut
    go_wp2_with (first | (refine wpL_store_row rfl 26 _ _ rfl R _ rfl rfl 26 _ hRX (by kernel_rfl) rfl (by simp [Value.oneCell']) ?_) | (refine wpL_load_row rfl 26 _ rfl Bk _ 26 (0, 0) _ rfl hBX Tryd.underlying26 rfl (by kernel_rfl) ?_))
    refine bodyPost_ret (v := .agg #[.int .i64 q9.k, .string q9.bx, .string q9.tt, .slice uo q9.U.length uc, .slice fo q9.P.length fc, .int .i64 q9.tm, .int .i64 q9.md, .string q9.ms]) (results_cell_row Tryd.results11 _ _ R 26 _ (0, 0) _ rfl (setRow_heap _ _ _ _ _ _ hRX) Tryd.underlying26 rfl (by kernel_rfl)) rfl ?_
    exact ⟨q9, uo, fo, uc, fc, aY, rfl, hq9, row_stay hUX (fun k hk => setRow_other _ _ _ _ (row_not_block hUX hRX (by decide) k hk)), row_stay hPX (fun k hk => setRow_other _ _ _ _ (row_not_block hPX hRX (by decide) k hk)), hsX.setR (by omega), gr_setR hgW hRw⟩
end Go.Proofs.YtillilllceeonaaDoor
