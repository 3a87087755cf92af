
/- A point put behind bytes, in each of the sets: the program's side. -/
import Derived.Test.YtgbhckokdjhpjaaDoorPoints
namespace Go.Proofs.YtgbhckokdjhpjaaDoor
open Go.RowKit Go.Lib Go.Maps
theorem Tryd.info5 : (Tryd.prog.info? 5).map (fun i => (i.zero, i.size, i.bytes)) = some (some (.int .u8 0), 1, 1) := by kernel_rfl
set_option maxHeartbeats 400000 in
theorem implPoint (p : Int) (w : World) : Calls Tryd.prog 19 #[.int .i64 p] w fun e w' => e = .returned (.bool (Pl.isPt p)) ∧ w' = w := by
  unfold Pl.isPt
  by_cases h1 : 0 ≤ p <;> by_cases h2 : p ≤ 1114111 <;> by_cases h3 : 55296 ≤ p <;> by_cases h4 : p ≤ 57343
  all_goals
    go_enter Tryd.func19, Tryd.ntmps19
    go_wp2
    go_ret
    exact ⟨congrArg (fun b => Ending.returned (.bool b)) (by first | (simp [h1, h2, h3, h4]; done) | (simp; omega)), rfl⟩
set_option maxHeartbeats 400000 in
theorem implChars1 (w : World) : Calls Tryd.prog 18 #[.int .i64 1] w fun e w' => e = .returned (.iface 46 (.agg #[.int .i64 127])) ∧ w' = w := by
  go_enter Tryd.func18, Tryd.ntmps18
  go_wp2
  go_ret
  exact ⟨rfl, rfl⟩
set_option maxHeartbeats 400000 in
theorem implChars2 (w : World) : Calls Tryd.prog 18 #[.int .i64 2] w fun e w' => e = .returned (.iface 46 (.agg #[.int .i64 255])) ∧ w' = w := by
  go_enter Tryd.func18, Tryd.ntmps18
  go_wp2
  go_ret
  exact ⟨rfl, rfl⟩
set_option maxHeartbeats 400000 in
theorem implChars4 (w : World) : Calls Tryd.prog 18 #[.int .i64 4] w fun e w' => e = .returned (.iface 53 (.agg #[])) ∧ w' = w := by
  go_enter Tryd.func18, Tryd.ntmps18
  go_wp2
  go_ret
  exact ⟨rfl, rfl⟩
set_option maxHeartbeats 400000 in
theorem implChars5 (w : World) : Calls Tryd.prog 18 #[.int .i64 5] w fun e w' => e = .returned (.iface 54 (.agg #[])) ∧ w' = w := by
  go_enter Tryd.func18, Tryd.ntmps18
  go_wp2
  go_ret
  exact ⟨rfl, rfl⟩
set_option maxHeartbeats 400000 in
theorem implChars0 (s : Int) (w : World) (h : s < 1 ∨ 5 < s) : Calls Tryd.prog 18 #[.int .i64 s] w fun e w' => e = .returned .nilIface ∧ w' = w := by
  have h1 : (s == 1) = false := by simp; omega
  have h2 : (s == 2) = false := by simp; omega
  have h3 : (s == 3) = false := by simp; omega
  have h4 : (s == 4) = false := by simp; omega
  have h5 : (s == 5) = false := by simp; omega
  have g1 : ¬ s = 1 := by omega
  have g2 : ¬ s = 2 := by omega
  have g3 : ¬ s = 3 := by omega
  have g4 : ¬ s = 4 := by omega
  have g5 : ¬ s = 5 := by omega
  go_enter Tryd.func18, Tryd.ntmps18
  go_wp2
  go_ret
  exact ⟨rfl, rfl⟩
set_option maxHeartbeats 400000 in
theorem implChars3 (w : World) : Calls Tryd.prog 18 #[.int .i64 3] w fun e w' => ∃ m1 m2, e = .returned (.iface 50 (.agg #[.map (some m1), .map (some m2)])) ∧ Nine w' m1 m2 ∧ w.heap.size ≤ m1 ∧ w.heap.size ≤ m2 ∧ Below w.heap.size w w' := by
  go_enter Tryd.func18, Tryd.ntmps18
  go_wp2_with fail
  refine (implNew _).mono ?_
  rintro e w2 ⟨m1, m2, rfl, h1, h2, h3, h4⟩
  go_wp2
  go_ret
  exact ⟨m1, m2, rfl, h1, h2, h3, h4⟩
theorem wp_app' {P : Program} {W w : World} {ops : Array Oper} {rest : List Oper} {o : Oper} {a : Act} {Q : Exit → Act → World → Prop} (hgd : o.guard = none) (s x : Operand) (t : TypeId)
    (ho : o.op = .call { callee := .builtin .append, args := #[s, x], argTypes := #[t, t] })
    (i : TypeInfo) (ht : P.underlying t = some (.slice 5)) (hi : P.info? 5 = some i) (hz : i.zero = some (.int .u8 0)) (hsize : i.size = 1) (hby : i.bytes = 1)
    (B : Nat) (v : Value) (p : List UInt8) (hs : a.eval s = v) (hown : Own B v p w) (cs : Array Value) (news : List UInt8) (hcs : cs.toList = byteCells news)
    (n c g : Nat) (hn : n = news.length) (hx : a.eval x = .slice (some ⟨g, 0, none⟩) n c) (hg : w.heap.size = g) (hlen : p.length + news.length ≤ 140737488355328) (hB : B ≤ W.heap.size) (hb : Below B W w)
    (h : ∀ v' w', Own B v' (p ++ news) w' → Below B W w' → wpList P ops Q rest (a.put o.dst v') w') : wpList P ops Q (o :: rest) a (w.alloc (.cells cs 5)) := by
  subst hg
  exact wp_app hgd s x t ho i ht hi hz hsize hby B v p hs hown cs news hcs n c hn hx hlen hB hb h
set_option maxHeartbeats 400000 in
theorem implPutB (top pt : Int) (h0 : 0 ≤ pt) (ht : top < 256) (ht0 : 0 ≤ top) (v : Value) (p : List UInt8) (B : Nat) (W w : World) (hown : Own B v p w) (hlen : p.length ≤ 1000000) (hB : B ≤ W.heap.size) (hb : Below B W w) :
    Calls Tryd.prog 47 #[.agg #[.int .i64 top], v, .int .i64 pt] w fun e w' => ∃ v', e = .returned v' ∧ Own B v' (p ++ (if pt ≤ top then [Pl.by8 pt] else [])) w' ∧ Below B W w' := by
  obtain ⟨i0, hi, hy0, hy1, hy2⟩ := info_parts Tryd.info5
  by_cases h : pt ≤ top
  · rw [if_pos h]
    go_enter Tryd.func47, Tryd.ntmps47
    go_wp2_with (at_builtin; go_must (refine wp_app' (W := W) rfl _ _ 27 rfl i0 Tryd.underlying27 hi hy0 hy1 hy2 B v p rfl (hown.alloc _) _ [Pl.by8 pt] (by simp [byteCells, Pl.by8_val pt h0 (by omega)]) 1 1 _ rfl rfl (by simp) (by simp; omega) hB (hb.alloc (by have := hb.size; omega) _) ?_; intro v1 w1 hown1 hb1))
    go_ret
    exact ⟨_, rfl, hown1, hb1⟩
  · rw [if_neg h, List.append_nil]
    go_enter Tryd.func47, Tryd.ntmps47
    go_wp2
    go_ret
    exact ⟨_, rfl, hown.alloc _, hb.alloc (by have := hb.size; omega) _⟩
set_option maxHeartbeats 400000 in
theorem implPair (n : Int) (h0 : 0 ≤ n) (h1 : n < 65536) (v : Value) (p : List UInt8) (B : Nat) (W w : World) (hown : Own B v p w) (hlen : p.length ≤ 1000000) (hB : B ≤ W.heap.size) (hb : Below B W w) :
    Calls Tryd.prog 57 #[v, .int .i64 n] w fun e w' => ∃ v', e = .returned v' ∧ Own B v' (p ++ [Pl.by8 (n / 256), Pl.by8 (n % 256)]) w' ∧ Below B W w' := by
  obtain ⟨i0, hi, hy0, hy1, hy2⟩ := info_parts Tryd.info5
  go_enter Tryd.func57, Tryd.ntmps57
  go_wp2_with (at_builtin; go_must (refine wp_app (W := W) rfl _ _ 27 rfl i0 Tryd.underlying27 hi hy0 hy1 hy2 B v p rfl hown _ [Pl.by8 (n / 256), Pl.by8 (n % 256)] ?_ 2 2 rfl rfl (by simp; omega) hB hb ?_))
  · simp [byteCells, Pl.by8_val (n / 256) (by omega) (by omega), Pl.by8_val (n % 256) (by omega) (by omega)]
  intro v1 w1 hown1 hb1
  go_wp2
  go_ret
  exact ⟨_, rfl, hown1, hb1⟩
theorem runeCells_form (p : Int) (h : Pl.isPt p = true) : Lib.runeCells p = byteCells (Pl.form 4 p) := by
  simp only [Pl.isPt, Bool.and_eq_true, decide_eq_true_eq, Bool.not_eq_true', Bool.and_eq_false_iff, decide_eq_false_iff_not] at h
  unfold Pl.form
  rw [if_neg (by simp [Pl.isPt]; omega), if_neg (by decide), if_neg (by decide), if_neg (by decide), if_pos rfl]
  split
  · rw [Lib.runeCells, encodeRuneZ_one (by omega) (by omega)]; simp [byteCells, Pl.by8_val p (by omega) (by omega)]
  · split
    · rw [Lib.runeCells, encodeRuneZ_two (by omega) (by omega)]; simp [byteCells, Pl.by8_val (192 + p / 64) (by omega) (by omega), Pl.by8_val (128 + p % 64) (by omega) (by omega)]
    · split
      · rw [Lib.runeCells, encodeRuneZ_three (by omega)]; simp [byteCells, Pl.by8_val (224 + p / 4096) (by omega) (by omega), Pl.by8_val (128 + p / 64 % 64) (by omega) (by omega), Pl.by8_val (128 + p % 64) (by omega) (by omega)]
      · rw [Lib.runeCells, encodeRuneZ_four (by omega) (by omega)]; simp [byteCells, Pl.by8_val (240 + p / 262144) (by omega) (by omega), Pl.by8_val (128 + p / 4096 % 64) (by omega) (by omega), Pl.by8_val (128 + p / 64 % 64) (by omega) (by omega), Pl.by8_val (128 + p % 64) (by omega) (by omega)]
/-- The slice v, whose head may be frozen, holds just the bytes p. -/
def OwF (B : Nat) (v : Value) (p : List UInt8) (w : World) : Prop := w.ownsRowF B 5 1 v p.length (byteCells p)
set_option maxHeartbeats 400000 in
theorem implPut4 (pt : Int) (h0 : Pl.isPt pt = true) (v : Value) (p : List UInt8) (B : Nat) (W w : World) (hown : OwF B v p w) (hlen : p.length ≤ 1000000) (hB : B ≤ W.heap.size) (hb : Below B W w) :
    Calls Tryd.prog 51 #[.agg #[], v, .int .i64 pt] w fun e w' => ∃ v', e = .returned v' ∧ OwF B v' (p ++ Pl.form 4 pt) w' ∧ Below B W w' := by
  have hpt := h0
  simp only [Pl.isPt, Bool.and_eq_true, decide_eq_true_eq, Bool.not_eq_true', Bool.and_eq_false_iff, decide_eq_false_iff_not] at h0
  have hsz := hb.size
  go_enter Tryd.func51, Tryd.ntmps51
  go_wp2_with fail
  refine (Tryd.utf8_AppendRune_row B v p.length (byteCells p) pt (by omega) (by omega) _ (World.ownsRowF.kept hown (World.grownBy_alloc w _ none) (by by_cases h : v.ownBlock = none <;> simp [h])) (by omega) (by simp; omega)).mono ?_
  rintro e w2 ⟨v2, rfl, ho2, ob, hg2⟩
  have hfo := runeCells_form pt hpt
  have hown2 : OwF B v2 (p ++ Pl.form 4 pt) w2 := by
    unfold OwF
    rw [byteCells_append, List.length_append, ← hfo]
    rw [show (Pl.form 4 pt).length = (Lib.runeCells pt).length by rw [hfo, byteCells_length]]
    exact ho2
  have hb2 : Below B W w2 := ((hb.alloc (by omega) _).alloc (by simp; omega) _).grown hg2 (by simp; omega) (fun k hk => (World.ownsRowF.lt hown k hk).1)
  go_wp2
  go_ret
  exact ⟨_, rfl, hown2, hb2⟩
theorem and1023 (n : Int) : bits .and .i64 n 1023 = n % 1024 := by
  have h1 : (BitVec.ofInt 64 1023).toNat = 2 ^ 10 - 1 := by decide
  have key : (BitVec.ofInt 64 n &&& BitVec.ofInt 64 1023).toNat = (n % ((2 ^ 64 : Nat) : Int)).toNat % 2 ^ 10 := by
    rw [BitVec.toNat_and, BitVec.toNat_ofInt, h1, Nat.and_two_pow_sub_one_eq_mod]
  show IntKind.i64.wrap ((BitVec.ofInt 64 n &&& BitVec.ofInt 64 1023).toNat : Nat) = n % 1024
  rw [key, IntKind.wrap_i64]
  omega
set_option maxHeartbeats 400000 in
theorem implPut5 (pt : Int) (h0 : Pl.isPt pt = true) (v : Value) (p : List UInt8) (B : Nat) (W w : World) (hown : Own B v p w) (hlen : p.length ≤ 900000) (hB : B ≤ W.heap.size) (hb : Below B W w) :
    Calls Tryd.prog 55 #[.agg #[], v, .int .i64 pt] w fun e w' => ∃ v', e = .returned v' ∧ Own B v' (p ++ Pl.form 5 pt) w' ∧ Below B W w' := by
  have hpt := h0
  simp only [Pl.isPt, Bool.and_eq_true, decide_eq_true_eq, Bool.not_eq_true', Bool.and_eq_false_iff, decide_eq_false_iff_not] at h0
  have hsz := hb.size
  unfold Pl.form
  rw [if_neg (by rw [hpt]; simp), if_neg (by decide), if_neg (by decide), if_neg (by decide), if_neg (by decide)]
  by_cases h : pt < 65536
  · rw [if_pos h]
    go_enter Tryd.func55, Tryd.ntmps55
    go_wp2_with fail
    refine (implPair pt (by omega) h v p B W _ (hown.alloc _) (by omega) hB (hb.alloc (by omega) _)).mono ?_
    rintro e w2 ⟨v2, rfl, ho2, hb2⟩
    go_wp2
    go_ret
    exact ⟨_, rfl, ho2, hb2⟩
  · rw [if_neg h]
    have hbit := and1023 (pt - 65536)
    go_enter Tryd.func55, Tryd.ntmps55
    go_wp2_with fail
    refine (implPair (55296 + (pt - 65536) / 1024) (by omega) (by omega) v p B W _ (hown.alloc _) (by omega) hB (hb.alloc (by omega) _)).mono ?_
    rintro e w2 ⟨v2, rfl, ho2, hb2⟩
    go_wp2_with fail
    refine (implPair (56320 + (pt - 65536) % 1024) (by omega) (by omega) v2 _ B W _ ho2 (by simp; omega) hB hb2).mono ?_
    rintro e w3 ⟨v3, rfl, ho3, hb3⟩
    go_wp2
    go_ret
    exact ⟨_, rfl, by simpa using ho3, hb3⟩
theorem ownsMap_below {k : TypeId} {R : Value → Option (DataW Unit × List MemPlace)} {W w : World} {b n : Nat} {D : DataW Unit} (h : W.ownsMap Tryd.prog k R b n D) (hb : Below W.heap.size W w) : w.ownsMap Tryd.prog k R b n D := by
  have hlt := h.lt
  unfold World.ownsMap at h ⊢
  rw [hb.block b hlt]
  exact h
theorem Nine.below {W w : World} {m1 m2 : Nat} (h : Nine W m1 m2) (hb : Below W.heap.size W w) : Nine w m1 m2 := by
  obtain ⟨h1, D, h2, h3⟩ := h
  exact ⟨ownsMap_below h1 hb, D, ownsMap_below h2 hb, h3⟩
theorem Nine.alloc {w : World} {m1 m2 : Nat} (h : Nine w m1 m2) (o : Obj) : Nine (w.alloc o) m1 m2 := by
  obtain ⟨h1, D, h2, h3⟩ := h
  exact ⟨h1.alloc o, D, h2.alloc o, h3⟩
theorem zero8 (w : World) : (zeroValue 5).run Tryd.prog w = .ok (.int .u8 0) w := by kernel_rfl
theorem zero64 (w : World) : (zeroValue 2).run Tryd.prog w = .ok (.int .i64 0) w := by kernel_rfl
set_option maxHeartbeats 1000000 in
theorem implPut3 (pt : Int) (h0 : 0 ≤ pt) (h1 : pt ≤ 1114111) (v : Value) (p : List UInt8) (m1 m2 : Nat) (W w : World) (hown : Own W.heap.size v p w) (hlen : p.length ≤ 1000000) (hb : Below W.heap.size W w) (hN : Nine w m1 m2) :
    Calls Tryd.prog 49 #[.agg #[.map (some m1), .map (some m2)], v, .int .i64 pt] w fun e w' => ∃ v', e = .returned v' ∧ Own W.heap.size v' (p ++ (match Pl.unNine pt with | some b => [Pl.by8 b] | none => if 255 < pt then [] else if (Pl.nineOf pt).isSome then [] else [Pl.by8 pt])) w' ∧ Below W.heap.size W w' := by
  obtain ⟨i0, hi, hy0, hy1, hy2⟩ := info_parts Tryd.info5
  have hsz := hb.size
  obtain ⟨hm1, D, hm2, hD⟩ := hN.alloc (.cells #[.map (some m1), .map (some m2)] 50)
  have hownA := hown.alloc (.cells #[.map (some m1), .map (some m2)] 50)
  have hbA := hb.alloc (by omega) (.cells #[.map (some m1), .map (some m2)] 50)
  have hwf : (Lit.int .i64 pt).wf = true := WalkArith.wf_i64 (by omega)
  have hh := hD.has pt
  cases hu : Pl.unNine pt with
  | some b =>
    have hbb : 0 ≤ b ∧ b < 256 := by
      have := Pl.un_nine hu
      unfold Pl.nineOf at this
      repeat' split at this
      all_goals first | (cases this; done) | omega
    have he := hD.elem pt b (.lit (.int .u8 0)) hu
    rw [hu] at hh
    simp only [Option.isSome_some] at hh
    go_enter Tryd.func49, Tryd.ntmps49
    go_wp2_with (first
      | (at_lookup; refine wpList_lookup_own_ok_int _ rfl _ _ 48 rfl 2 5 .u8 law64 Tryd.underlying48 Tryd.underlying5 (zero8 _) m2 8 D rfl hm2 _ _ rfl (keyOf_int_mk Tryd.underlying2 hwf) ?_; intro c hat hwc; have hcb : c = b := by (rw [he] at hat; cases hat; rfl))
      | (at_builtin; go_must (refine wp_app' (W := W) rfl _ _ 27 rfl i0 Tryd.underlying27 hi hy0 hy1 hy2 W.heap.size v p rfl hownA _ [Pl.by8 b] (by simp [byteCells, Pl.by8_val b (by omega) (by omega)]) 1 1 _ rfl rfl (by simp) (by simp; omega) (Nat.le_refl _) hbA ?_; intro v1 w1 hown1 hb1))
      | go_in)
    go_ret
    exact ⟨_, rfl, hown1, hb1⟩
  | none =>
    rw [hu] at hh
    simp only [Option.isSome_none] at hh
    dsimp only
    by_cases h2 : 255 < pt
    · rw [if_pos h2, List.append_nil]
      go_enter Tryd.func49, Tryd.ntmps49
      go_wp2_with (first
        | (at_lookup; refine wpList_lookup_own_ok_int _ rfl _ _ 48 rfl 2 5 .u8 law64 Tryd.underlying48 Tryd.underlying5 (zero8 _) m2 8 D rfl hm2 _ _ rfl (keyOf_int_mk Tryd.underlying2 hwf) ?_; intro c hat hwc)
        | go_in)
      go_ret
      exact ⟨_, rfl, hownA, hbA⟩
    · rw [if_neg h2]
      have hwf8 : (Lit.int .u8 pt).wf = true := WalkArith.wf_u8 (by omega)
      have hk := Pl.nineD_has pt
      cases hn : (Pl.nineOf pt).isSome
      · rw [hn] at hk
        rw [if_neg (by simp)]
        go_enter Tryd.func49, Tryd.ntmps49
        go_wp2_with (first
          | (at_lookup; refine wpList_lookup_own_ok_int _ rfl _ _ 48 rfl 2 5 .u8 law64 Tryd.underlying48 Tryd.underlying5 (zero8 _) m2 8 D rfl hm2 _ _ rfl (keyOf_int_mk Tryd.underlying2 hwf) ?_; intro c hat hwc)
          | (at_lookup; refine wpList_lookup_own_ok_int _ rfl _ _ 47 rfl 5 2 .i64 law8 Tryd.underlying47 Tryd.underlying2 (zero64 _) m1 8 Pl.nineD rfl hm1 _ _ rfl (keyOf_int_mk Tryd.underlying5 hwf8) ?_; intro c2 hat2 hwc2)
          | (at_builtin; go_must (refine wp_app' (W := W) rfl _ _ 27 rfl i0 Tryd.underlying27 hi hy0 hy1 hy2 W.heap.size v p rfl hownA _ [Pl.by8 pt] (by simp [byteCells, Pl.by8_val pt (by omega) (by omega)]) 1 1 _ rfl rfl (by simp) (by simp; omega) (Nat.le_refl _) hbA ?_; intro v1 w1 hown1 hb1))
          | go_in)
        go_ret
        exact ⟨_, rfl, hown1, hb1⟩
      · rw [hn] at hk
        rw [if_pos rfl, List.append_nil]
        go_enter Tryd.func49, Tryd.ntmps49
        go_wp2_with (first
          | (at_lookup; refine wpList_lookup_own_ok_int _ rfl _ _ 48 rfl 2 5 .u8 law64 Tryd.underlying48 Tryd.underlying5 (zero8 _) m2 8 D rfl hm2 _ _ rfl (keyOf_int_mk Tryd.underlying2 hwf) ?_; intro c hat hwc)
          | (at_lookup; refine wpList_lookup_own_ok_int _ rfl _ _ 47 rfl 5 2 .i64 law8 Tryd.underlying47 Tryd.underlying2 (zero64 _) m1 8 Pl.nineD rfl hm1 _ _ rfl (keyOf_int_mk Tryd.underlying5 hwf8) ?_; intro c2 hat2 hwc2)
          | go_in)
        go_ret
        exact ⟨_, rfl, hownA, hbA⟩
end Go.Proofs.YtgbhckokdjhpjaaDoor
