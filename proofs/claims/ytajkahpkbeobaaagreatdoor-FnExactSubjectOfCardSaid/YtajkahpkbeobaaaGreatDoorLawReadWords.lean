
/- A point put behind bytes, in each of the sets: the program's side. -/

/- Encode, the program's side: the loop over any set that puts points; each of the sets. -/

/- Encode, the specification's side. -/

/- The walk of the law on ReadWords. -/
import Derived.Test.YtajkahpkbeobaaaGreatDoorDcTake
import Derived.Test.YtajkahpkbeobaaaGreatDoorDcGuess
import Derived.Test.YtajkahpkbeobaaaGreatDoorWdLoop
import Derived.Test.YtajkahpkbeobaaaGreatDoorWdSpecR
namespace Go.Proofs.YtajkahpkbeobaaaGreatDoor
open Go.RowKit Go.Lib Go.Maps
set_option maxRecDepth 20000 in
theorem wp_app' {P : Program} {W w : World} {ops : Array Oper} {rest : List Oper} {o : Oper} {a : Act} {Q : Exit → Act → World → Prop} (hgd : o.guard = none) (s x : Operand) (t : TypeId)
    (ho : o.op = .call { callee := .builtin .append, args := #[s, x], argTypes := #[t, t] })
    (i : TypeInfo) (ht : P.underlying t = some (.slice 5)) (hi : P.info? 5 = some i) (hz : i.zero = some (.int .u8 0)) (hsize : i.size = 1) (hby : i.bytes = 1)
    (B : Nat) (v : Value) (p : List UInt8) (hs : a.eval s = v) (hown : Own B v p w) (cs : Array Value) (news : List UInt8) (hcs : cs.toList = byteCells news)
    (n c g : Nat) (hn : n = news.length) (hx : a.eval x = .slice (some ⟨g, 0, none⟩) n c) (hg : w.heap.size = g) (hlen : p.length + news.length ≤ 140737488355328) (hB : B ≤ W.heap.size) (hb : Below B W w)
    (h : ∀ v' w', Own B v' (p ++ news) w' → Below B W w' → wpList P ops Q rest (a.put o.dst v') w') : wpList P ops Q (o :: rest) a (w.alloc (.cells cs 5)) := by
  subst hg
  exact wp_app hgd s x t ho i ht hi hz hsize hby B v p hs hown cs news hcs n c hn hx hlen hB hb h
set_option maxRecDepth 20000 in
set_option maxHeartbeats 400000 in
theorem implPutB (top pt : Int) (h0 : 0 ≤ pt) (ht : top < 256) (ht0 : 0 ≤ top) (v : Value) (p : List UInt8) (B : Nat) (W w : World) (hown : Own B v p w) (hlen : p.length ≤ 1000000) (hB : B ≤ W.heap.size) (hb : Below B W w) :
    Calls Tryz.prog 188 #[.agg #[.int .i64 top], v, .int .i64 pt] w fun e w' => ∃ v', e = .returned v' ∧ Own B v' (p ++ (if pt ≤ top then [Pl.by8 pt] else [])) w' ∧ Below B W w' := by
  obtain ⟨i0, hi, hy0, hy1, hy2⟩ := info_parts Tryz.info5
  by_cases h : pt ≤ top
  · rw [if_pos h]
    go_enter Tryz.func188, Tryz.ntmps188
    go_wp2_with (at_builtin; go_must (refine wp_app' (W := W) rfl _ _ 35 rfl i0 Tryz.underlying35 hi hy0 hy1 hy2 B v p rfl (hown.alloc _) _ [Pl.by8 pt] (by simp [byteCells, Pl.by8_val pt h0 (by omega)]) 1 1 _ rfl rfl (by simp) (by simp; omega) hB (hb.alloc (by have := hb.size; omega) _) ?_; intro v1 w1 hown1 hb1))
    go_ret
    exact ⟨_, rfl, hown1, hb1⟩
  · rw [if_neg h, List.append_nil]
    go_enter Tryz.func188, Tryz.ntmps188
    go_wp2
    go_ret
    exact ⟨_, rfl, hown.alloc _, hb.alloc (by have := hb.size; omega) _⟩
set_option maxRecDepth 20000 in
set_option maxHeartbeats 400000 in
theorem implPair (n : Int) (h0 : 0 ≤ n) (h1 : n < 65536) (v : Value) (p : List UInt8) (B : Nat) (W w : World) (hown : Own B v p w) (hlen : p.length ≤ 1000000) (hB : B ≤ W.heap.size) (hb : Below B W w) :
    Calls Tryz.prog 198 #[v, .int .i64 n] w fun e w' => ∃ v', e = .returned v' ∧ Own B v' (p ++ [Pl.by8 (n / 256), Pl.by8 (n % 256)]) w' ∧ Below B W w' := by
  obtain ⟨i0, hi, hy0, hy1, hy2⟩ := info_parts Tryz.info5
  go_enter Tryz.func198, Tryz.ntmps198
  go_wp2_with (at_builtin; go_must (refine wp_app (W := W) rfl _ _ 35 rfl i0 Tryz.underlying35 hi hy0 hy1 hy2 B v p rfl hown _ [Pl.by8 (n / 256), Pl.by8 (n % 256)] ?_ 2 2 rfl rfl (by simp; omega) hB hb ?_))
  · simp [byteCells, Pl.by8_val (n / 256) (by omega) (by omega), Pl.by8_val (n % 256) (by omega) (by omega)]
  intro v1 w1 hown1 hb1
  go_wp2
  go_ret
  exact ⟨_, rfl, hown1, hb1⟩
set_option maxRecDepth 20000 in
theorem runeCells_form (p : Int) (h : Pl.isPt p = true) : Lib.runeCells p = byteCells (Pl.form 4 p) := by
  simp only [Pl.isPt, Bool.and_eq_true, decide_eq_true_eq, Bool.not_eq_true', Bool.and_eq_false_iff, decide_eq_false_iff_not] at h
  unfold Pl.form
  rw [if_neg (by simp [Pl.isPt]; omega), if_neg (by decide), if_neg (by decide), if_neg (by decide), if_pos rfl]
  split
  · rw [Lib.runeCells, encodeRuneZ_one (by omega) (by omega)]; simp [byteCells, Pl.by8_val p (by omega) (by omega)]
  · split
    · rw [Lib.runeCells, encodeRuneZ_two (by omega) (by omega)]; simp [byteCells, Pl.by8_val (192 + p / 64) (by omega) (by omega), Pl.by8_val (128 + p % 64) (by omega) (by omega)]
    · split
      · rw [Lib.runeCells, encodeRuneZ_three (by omega)]; simp [byteCells, Pl.by8_val (224 + p / 4096) (by omega) (by omega), Pl.by8_val (128 + p / 64 % 64) (by omega) (by omega), Pl.by8_val (128 + p % 64) (by omega) (by omega)]
      · rw [Lib.runeCells, encodeRuneZ_four (by omega) (by omega)]; simp [byteCells, Pl.by8_val (240 + p / 262144) (by omega) (by omega), Pl.by8_val (128 + p / 4096 % 64) (by omega) (by omega), Pl.by8_val (128 + p / 64 % 64) (by omega) (by omega), Pl.by8_val (128 + p % 64) (by omega) (by omega)]
/-- The slice v, whose head may be frozen, holds just the bytes p. -/
def OwF (B : Nat) (v : Value) (p : List UInt8) (w : World) : Prop := w.ownsRowF B 5 1 v p.length (byteCells p)
set_option maxRecDepth 20000 in
set_option maxHeartbeats 400000 in
theorem implPut4 (pt : Int) (h0 : Pl.isPt pt = true) (v : Value) (p : List UInt8) (B : Nat) (W w : World) (hown : OwF B v p w) (hlen : p.length ≤ 1000000) (hB : B ≤ W.heap.size) (hb : Below B W w) :
    Calls Tryz.prog 192 #[.agg #[], v, .int .i64 pt] w fun e w' => ∃ v', e = .returned v' ∧ OwF B v' (p ++ Pl.form 4 pt) w' ∧ Below B W w' := by
  have hpt := h0
  simp only [Pl.isPt, Bool.and_eq_true, decide_eq_true_eq, Bool.not_eq_true', Bool.and_eq_false_iff, decide_eq_false_iff_not] at h0
  have hsz := hb.size
  go_enter Tryz.func192, Tryz.ntmps192
  go_wp2_with fail
  refine (Tryz.utf8_AppendRune_row B v p.length (byteCells p) pt (by omega) (by omega) _ (World.ownsRowF.kept hown (World.grownBy_alloc w _ none) (by by_cases h : v.ownBlock = none <;> simp [h])) (by omega) (by simp; omega)).mono ?_
  rintro e w2 ⟨v2, rfl, ho2, ob, hg2⟩
  have hfo := runeCells_form pt hpt
  have hown2 : OwF B v2 (p ++ Pl.form 4 pt) w2 := by
    unfold OwF
    rw [byteCells_append, List.length_append, ← hfo]
    rw [show (Pl.form 4 pt).length = (Lib.runeCells pt).length by rw [hfo, byteCells_length]]
    exact ho2
  have hb2 : Below B W w2 := ((hb.alloc (by omega) _).alloc (by simp; omega) _).grown hg2 (by simp; omega) (fun k hk => (World.ownsRowF.lt hown k hk).1)
  go_wp2
  go_ret
  exact ⟨_, rfl, hown2, hb2⟩
set_option maxRecDepth 20000 in
theorem and1023 (n : Int) : bits .and .i64 n 1023 = n % 1024 := by
  have h1 : (BitVec.ofInt 64 1023).toNat = 2 ^ 10 - 1 := by decide
  have key : (BitVec.ofInt 64 n &&& BitVec.ofInt 64 1023).toNat = (n % ((2 ^ 64 : Nat) : Int)).toNat % 2 ^ 10 := by
    rw [BitVec.toNat_and, BitVec.toNat_ofInt, h1, Nat.and_two_pow_sub_one_eq_mod]
  show IntKind.i64.wrap ((BitVec.ofInt 64 n &&& BitVec.ofInt 64 1023).toNat : Nat) = n % 1024
  rw [key, IntKind.wrap_i64]
  omega
set_option maxRecDepth 20000 in
set_option maxHeartbeats 400000 in
theorem implPut5 (pt : Int) (h0 : Pl.isPt pt = true) (v : Value) (p : List UInt8) (B : Nat) (W w : World) (hown : Own B v p w) (hlen : p.length ≤ 900000) (hB : B ≤ W.heap.size) (hb : Below B W w) :
    Calls Tryz.prog 196 #[.agg #[], v, .int .i64 pt] w fun e w' => ∃ v', e = .returned v' ∧ Own B v' (p ++ Pl.form 5 pt) w' ∧ Below B W w' := by
  have hpt := h0
  simp only [Pl.isPt, Bool.and_eq_true, decide_eq_true_eq, Bool.not_eq_true', Bool.and_eq_false_iff, decide_eq_false_iff_not] at h0
  have hsz := hb.size
  unfold Pl.form
  rw [if_neg (by rw [hpt]; simp), if_neg (by decide), if_neg (by decide), if_neg (by decide), if_neg (by decide)]
  by_cases h : pt < 65536
  · rw [if_pos h]
    go_enter Tryz.func196, Tryz.ntmps196
    go_wp2_with fail
    refine (implPair pt (by omega) h v p B W _ (hown.alloc _) (by omega) hB (hb.alloc (by omega) _)).mono ?_
    rintro e w2 ⟨v2, rfl, ho2, hb2⟩
    go_wp2
    go_ret
    exact ⟨_, rfl, ho2, hb2⟩
  · rw [if_neg h]
    have hbit := and1023 (pt - 65536)
    go_enter Tryz.func196, Tryz.ntmps196
    go_wp2_with fail
    refine (implPair (55296 + (pt - 65536) / 1024) (by omega) (by omega) v p B W _ (hown.alloc _) (by omega) hB (hb.alloc (by omega) _)).mono ?_
    rintro e w2 ⟨v2, rfl, ho2, hb2⟩
    go_wp2_with fail
    refine (implPair (56320 + (pt - 65536) % 1024) (by omega) (by omega) v2 _ B W _ ho2 (by simp; omega) hB hb2).mono ?_
    rintro e w3 ⟨v3, rfl, ho3, hb3⟩
    go_wp2
    go_ret
    exact ⟨_, rfl, by simpa using ho3, hb3⟩
set_option maxRecDepth 20000 in
set_option maxHeartbeats 1000000 in
theorem implPut3 (pt : Int) (h0 : 0 ≤ pt) (h1 : pt ≤ 1114111) (v : Value) (p : List UInt8) (m1 m2 : Nat) (W w : World) (hown : Own W.heap.size v p w) (hlen : p.length ≤ 1000000) (hb : Below W.heap.size W w) (hN : Nine w m1 m2) :
    Calls Tryz.prog 190 #[.agg #[.map (some m1), .map (some m2)], v, .int .i64 pt] w fun e w' => ∃ v', e = .returned v' ∧ Own W.heap.size v' (p ++ (match Pl.unNine pt with | some b => [Pl.by8 b] | none => if 255 < pt then [] else if (Pl.nineOf pt).isSome then [] else [Pl.by8 pt])) w' ∧ Below W.heap.size W w' := by
  obtain ⟨i0, hi, hy0, hy1, hy2⟩ := info_parts Tryz.info5
  have hsz := hb.size
  obtain ⟨hm1, D, hm2, hD⟩ := hN.alloc (.cells #[.map (some m1), .map (some m2)] 100)
  have hownA := hown.alloc (.cells #[.map (some m1), .map (some m2)] 100)
  have hbA := hb.alloc (by omega) (.cells #[.map (some m1), .map (some m2)] 100)
  have hwf : (Lit.int .i64 pt).wf = true := WalkArith.wf_i64 (by omega)
  have hh := hD.has pt
  cases hu : Pl.unNine pt with
  | some b =>
    have hbb : 0 ≤ b ∧ b < 256 := by
      have := Pl.un_nine hu
      unfold Pl.nineOf at this
      repeat' split at this
      all_goals first | (cases this; done) | omega
    have he := hD.elem pt b (.lit (.int .u8 0)) hu
    rw [hu] at hh
    simp only [Option.isSome_some] at hh
    go_enter Tryz.func190, Tryz.ntmps190
    go_wp2_with (first
      | (at_lookup; refine wpList_lookup_own_ok_int _ rfl _ _ 98 rfl 2 5 .u8 law64 Tryz.underlying98 Tryz.underlying5 (zero8 _) m2 8 D rfl hm2 _ _ rfl (keyOf_int_mk Tryz.underlying2 hwf) ?_; intro c hat hwc; have hcb : c = b := by (rw [he] at hat; cases hat; rfl))
      | (at_builtin; go_must (refine wp_app' (W := W) rfl _ _ 35 rfl i0 Tryz.underlying35 hi hy0 hy1 hy2 W.heap.size v p rfl hownA _ [Pl.by8 b] (by simp [byteCells, Pl.by8_val b (by omega) (by omega)]) 1 1 _ rfl rfl (by simp) (by simp; omega) (Nat.le_refl _) hbA ?_; intro v1 w1 hown1 hb1))
      | go_in)
    go_ret
    exact ⟨_, rfl, hown1, hb1⟩
  | none =>
    rw [hu] at hh
    simp only [Option.isSome_none] at hh
    dsimp only
    by_cases h2 : 255 < pt
    · rw [if_pos h2, List.append_nil]
      go_enter Tryz.func190, Tryz.ntmps190
      go_wp2_with (first
        | (at_lookup; refine wpList_lookup_own_ok_int _ rfl _ _ 98 rfl 2 5 .u8 law64 Tryz.underlying98 Tryz.underlying5 (zero8 _) m2 8 D rfl hm2 _ _ rfl (keyOf_int_mk Tryz.underlying2 hwf) ?_; intro c hat hwc)
        | go_in)
      go_ret
      exact ⟨_, rfl, hownA, hbA⟩
    · rw [if_neg h2]
      have hwf8 : (Lit.int .u8 pt).wf = true := WalkArith.wf_u8 (by omega)
      have hk := Pl.nineD_has pt
      cases hn : (Pl.nineOf pt).isSome
      · rw [hn] at hk
        rw [if_neg (by simp)]
        go_enter Tryz.func190, Tryz.ntmps190
        go_wp2_with (first
          | (at_lookup; refine wpList_lookup_own_ok_int _ rfl _ _ 98 rfl 2 5 .u8 law64 Tryz.underlying98 Tryz.underlying5 (zero8 _) m2 8 D rfl hm2 _ _ rfl (keyOf_int_mk Tryz.underlying2 hwf) ?_; intro c hat hwc)
          | (at_lookup; refine wpList_lookup_own_ok_int _ rfl _ _ 97 rfl 5 2 .i64 law8 Tryz.underlying97 Tryz.underlying2 (zero64 _) m1 8 Pl.nineD rfl hm1 _ _ rfl (keyOf_int_mk Tryz.underlying5 hwf8) ?_; intro c2 hat2 hwc2)
          | (at_builtin; go_must (refine wp_app' (W := W) rfl _ _ 35 rfl i0 Tryz.underlying35 hi hy0 hy1 hy2 W.heap.size v p rfl hownA _ [Pl.by8 pt] (by simp [byteCells, Pl.by8_val pt (by omega) (by omega)]) 1 1 _ rfl rfl (by simp) (by simp; omega) (Nat.le_refl _) hbA ?_; intro v1 w1 hown1 hb1))
          | go_in)
        go_ret
        exact ⟨_, rfl, hown1, hb1⟩
      · rw [hn] at hk
        rw [if_pos rfl, List.append_nil]
        go_enter Tryz.func190, Tryz.ntmps190
        go_wp2_with (first
          | (at_lookup; refine wpList_lookup_own_ok_int _ rfl _ _ 98 rfl 2 5 .u8 law64 Tryz.underlying98 Tryz.underlying5 (zero8 _) m2 8 D rfl hm2 _ _ rfl (keyOf_int_mk Tryz.underlying2 hwf) ?_; intro c hat hwc)
          | (at_lookup; refine wpList_lookup_own_ok_int _ rfl _ _ 97 rfl 5 2 .i64 law8 Tryz.underlying97 Tryz.underlying2 (zero64 _) m1 8 Pl.nineD rfl hm1 _ _ rfl (keyOf_int_mk Tryz.underlying5 hwf8) ?_; intro c2 hat2 hwc2)
          | go_in)
        go_ret
        exact ⟨_, rfl, hownA, hbA⟩
end Go.Proofs.YtajkahpkbeobaaaGreatDoor
namespace Go.Proofs.YtajkahpkbeobaaaGreatDoor
open Go.RowKit Go.Lib Go.Maps
/-- A set, as an interface value in the world W: it puts points behind bytes. -/
structure Putter (set : Int) (T : TypeId) (rv : Value) (f : FuncId) (O : Value → List UInt8 → World → Prop) (W : World) : Prop where
  meth : ∀ w, (method 312 T rv "loop.example/g00013/impl.put").run Tryz.prog w = .ok (f, rv) w
  enters : ∀ (args : Array Value) (w : World), (callFunc f args).run Tryz.prog w = .ok (.enter f args) w
  start : ∀ w, O (.slice none 0 0) [] w
  shape : ∀ v p w, O v p w → ∃ o cap, v = .slice o p.length cap
  put : ∀ pt v p w, Pl.isPt pt = true → O v p w → p.length ≤ 500000 → Below W.heap.size W w → Calls Tryz.prog f #[rv, v, .int .i64 pt] w fun e w' => ∃ v', e = .returned v' ∧ O v' (p ++ Pl.form set pt) w' ∧ Below W.heap.size W w'
  back : ∀ v p w, O v p w → (convert 35 9 v).run Tryz.prog w = .ok (.string ⟨p.toArray⟩) w
set_option maxRecDepth 20000 in
/-- Encode's way out. -/
theorem retV (w wr : World) (tmps : Array Value) (cs : Array Value) (hp : tmps.getD 4 undef = .pointer (some ⟨w.heap.size, 0, none⟩)) {old : Array Value} (hres : wr.heap[w.heap.size]? = some (.cells old 31 (0, 0))) (hb : Below w.heap.size w wr) (h2 : cs.size = 2 := by rfl) :
    bodyPost Tryz.prog Tryz.f18 (fun e w' => e = .returned (.agg cs) ∧ Below w.heap.size w w') Exit.ret { tmps := tmps, defers := [] } (wr.setRow w.heap.size cs) := by
  refine bodyPost_ret (v := .agg cs) (results_cell_row Tryz.results18 _ _ w.heap.size 31 _ (0, 0) _ hp (setRow_heap _ _ _ _ _ _ hres) Tryz.underlying31 rfl ?_) rfl ⟨rfl, hb.grown (grown_setRow _ _ _) hb.size (fun j hj => by cases hj; exact Nat.le_refl _)⟩
  rw [h2]
  kernel_rfl
set_option maxRecDepth 20000 in
set_option maxHeartbeats 1000000 in
theorem implEnc (set : Int) (o : Option Addr) (ps : List Int) (cap : Nat) (w : World) (hF : PtsAt w.heap.size w o ps) (hlen : ps.length ≤ 100000)
    (hch : ∀ w, Calls Tryz.prog 40 #[.int .i64 set] w fun e W => ∃ T rv f O, e = .returned (.iface T rv) ∧ Below w.heap.size w W ∧ Putter set T rv f O W) :
    Calls Tryz.prog 18 #[.int .i64 set, .slice o ps.length cap] w fun e w' => e = .returned (encV (Pl.enc (Pl.form set) [] ps)) ∧ Below w.heap.size w w' := by
  have HF : Hid (PtsAt w.heap.size w o ps) := hF
  clear hF
  go_enter Tryz.func18, Tryz.ntmps18
  go_wp2_with fail
  refine (hch _).mono ?_
  rintro e W ⟨T, rv, f, O, rfl, hbW, hP⟩
  have HP : Hid (Putter set T rv f O W) := hP
  have hm := hP.meth
  have hE := hP.enters
  clear hP hch
  have hres0 : W.heap[w.heap.size]? = some (.cells #[.bool false, .string ⟨#[]⟩] 31 (0, 0)) := (hbW.block _ (by simp)).trans (heap_alloc_at _ _)
  have hbel0 : Below w.heap.size w W := ((Below.refl _ _).alloc (Nat.le_refl _) _).trans (hbW.mono (by simp))
  have hsz0 : w.heap.size + 1 ≤ W.heap.size := by have := hbW.size; simpa using this
  have HW : Hid (PtsAt W.heap.size W o ps) := show _ from (HF.out.below hbel0).mono hbel0.size
  clear hbW HF
  go_wp2
  go_loopw [6, 22] (fun v i wr => ∃ (k : Nat) (p : List UInt8), k ≤ ps.length ∧ i = .int .i64 k ∧ p.length ≤ 4 * k ∧ Hid (Pl.enc (Pl.form set) p (ps.drop k) = Pl.enc (Pl.form set) [] ps) ∧ O v p wr ∧ Below W.heap.size W wr) (fun _ i _ => ps.length - (Lib.intOf i).toNat)
  case atStart => exact ⟨0, [], Nat.zero_le _, rfl, by simp, rfl, HP.out.start _, Below.refl _ _⟩
  case round =>
    obtain ⟨k, p, hk, rfl, hpl, hp, hown, hb⟩ := hrel
    have hres := (hb.block w.heap.size (by omega)).trans hres0
    have hbw := hbel0.trans (hb.mono hbel0.size)
    by_cases hlt : k < ps.length
    · obtain ⟨a, rfl, ha, hc0⟩ := (HW.out.below hb) k hlt
      have Hbad : Hid (Pl.form set ps[k] = [] → Pl.enc (Pl.form set) [] ps = none) := show _ → _ from fun h => Pl.enc_bad hlt h hp.out
      have Hstep : Hid (Pl.form set ps[k] ≠ [] → Pl.enc (Pl.form set) (p ++ Pl.form set ps[k]) (ps.drop (k + 1)) = Pl.enc (Pl.form set) [] ps) := show _ → _ from fun h => Pl.enc_step hlt h hp.out
      have Hfl := Pl.form_len set ps[k]
      clear hp
      generalize ps[k] = pt at hc0 Hbad Hstep Hfl
      cases hpt : Pl.isPt pt
      · have hE : Hid (Pl.enc (Pl.form set) [] ps = none) := Hbad.out (by unfold Pl.form; rw [if_pos hpt])
        have hisp := implPoint pt wr
        rw [hpt] at hisp
        clear Hbad Hstep hpt
        go_wp2_with fail
        refine hisp.mono ?_
        rintro e w3 ⟨rfl, rfl⟩
        go_wp2_with (first | (refine wpL_store_row rfl 31 _ _ rfl w.heap.size #[.bool false, .string ⟨#[]⟩] rfl rfl 31 _ hres (by kernel_rfl) rfl (by simp [Value.oneCell']) ?_) | go_in)
        rw [hE.out]
        exact retV _ _ _ _ rfl hres hbw
      · have hisp := implPoint pt wr
        rw [hpt] at hisp
        have hput := HP.out.put pt _ p wr hpt hown (by omega) hb
        go_wp2_with fail
        refine hisp.mono ?_
        rintro e w3 ⟨rfl, rfl⟩
        obtain ⟨og, cp, rfl⟩ := HP.out.shape _ _ _ hown
        go_wp2_with fail
        refine hput.mono ?_
        rintro e w4 ⟨v4, rfl, hown4, hb4⟩
        clear hput
        have hres4 := (hb4.block w.heap.size (by omega)).trans hres0
        have hbw4 := hbel0.trans (hb4.mono hbel0.size)
        obtain ⟨o4, cp4, rfl⟩ := HP.out.shape _ _ _ hown4
        by_cases hnil : Pl.form set pt = []
        · have hE : Hid (Pl.enc (Pl.form set) [] ps = none) := Hbad.out hnil
          rw [hnil, List.append_nil]
          clear Hbad Hstep
          go_wp2_with (first | (refine wpL_store_row rfl 31 _ _ rfl w.heap.size #[.bool false, .string ⟨#[]⟩] rfl rfl 31 _ hres4 (by kernel_rfl) rfl (by simp [Value.oneCell']) ?_) | go_in)
          rw [hE.out]
          exact retV _ _ _ _ rfl hres4 hbw4
        · have hE : Hid (Pl.enc (Pl.form set) (p ++ Pl.form set pt) (ps.drop (k + 1)) = Pl.enc (Pl.form set) [] ps) := Hstep.out hnil
          have hl1 : 0 < (Pl.form set pt).length := List.length_pos_iff.2 hnil
          obtain ⟨L, hL⟩ : ∃ L, L = (p ++ Pl.form set pt).length := ⟨_, rfl⟩
          have hLl : p.length < L ∧ L ≤ p.length + 4 := by rw [hL, List.length_append]; omega
          have hLd : ((L : Int) == (p.length : Int)) = false := by simp; omega
          have Hown4 : Hid (O (.slice o4 L cp4) (p ++ Pl.form set pt) w4) := show _ from by rw [hL]; exact hown4
          have HL : Hid (L = (p ++ Pl.form set pt).length) := hL
          rw [← hL]
          clear hown4 hL hown Hbad Hstep hnil
          go_wp2
          go_roundw
          case rel => exact ⟨k + 1, _, by omega, by go_num, by rw [← HL.out]; omega, hE, Hown4.out, hb4⟩
          case measure => simp [Lib.intOf]; omega
    · have hpn : Hid (Pl.enc (Pl.form set) [] ps = some p) := show _ = _ from Pl.enc_done (by omega) hp.out
      clear hp
      have hbk := HP.out.back _ _ _ hown
      go_wp2_with (first | (refine wpL_store_row rfl 31 _ _ rfl w.heap.size #[.bool true, .string ⟨p.toArray⟩] rfl rfl 31 _ hres (by kernel_rfl) rfl (by simp [Value.oneCell']) ?_) | go_in)
      rw [hpn.out]
      exact retV _ _ _ _ rfl hres hbw
set_option maxRecDepth 20000 in
theorem Own.flat {B : Nat} {v : Value} {p : List UInt8} {w : World} (h : Own B v p w) : ∃ o cap, v = .slice o p.length cap := by
  rcases h.form with ⟨rfl, rfl⟩ | ⟨g, cap, rfl⟩
  · exact ⟨none, 0, rfl⟩
  · exact ⟨_, cap, rfl⟩
set_option maxRecDepth 20000 in
theorem OwF.flat {B : Nat} {v : Value} {p : List UInt8} {w : World} (h : OwF B v p w) : ∃ o cap, v = .slice o p.length cap := by
  rcases h.2 with ⟨rfl, h0⟩ | ⟨g, cap, cur, fz, rfl, -⟩
  · exact ⟨none, 0, by rw [h0]⟩
  · exact ⟨_, cap, rfl⟩
set_option maxRecDepth 20000 in
theorem OwF.back {P : Program} {B : Nat} {v : Value} {p : List UInt8} {w : World} (h : OwF B v p w) (src dst : TypeId) (hs : P.underlying src = some (.slice 5)) (he : P.underlying 5 = some (.int .u8)) (hd : P.underlying dst = some .string) :
    (convert src dst v).run P w = .ok (.string ⟨p.toArray⟩) w := by
  rcases h.2 with ⟨rfl, h0⟩ | ⟨g, cap, cur, fz, rfl, -⟩
  · obtain rfl := List.length_eq_zero_iff.1 h0
    have := run_convert_bytes_string (P := P) w src dst 5 none 0 0 hs he hd
    rw [this]; rfl
  · refine run_convert_bytes_back w src dst 5 ⟨g, 0, none⟩ cap p hs he hd (fun j hj => ?_)
    exact World.ownsRowF.cells h (g := g) rfl j (.int .u8 (p[j].toNat : Int)) (by simp [byteCells, hj])
set_option maxRecDepth 20000 in
theorem putter12 (set top : Int) (hs : set = 1 ∧ top = 127 ∨ set = 2 ∧ top = 255) (W : World) : Putter set 96 (.agg #[.int .i64 top]) 188 (Own W.heap.size) W where
  meth := fun _ => by kernel_rfl
  enters := enters_of Tryz.func188 (by kernel_rfl) rfl
  start := Own.nil _
  shape := fun _ _ _ h => h.flat
  put := fun pt v p w hpt hown hl hb => by
    have hr := isPt_range hpt
    refine (implPutB top pt hr.1 (by omega) (by omega) v p _ W w hown (by omega) (Nat.le_refl _) hb).mono ?_
    rintro e w' ⟨v', rfl, h1, h2⟩
    refine ⟨v', rfl, ?_, h2⟩
    have : Pl.form set pt = if pt ≤ top then [Pl.by8 pt] else [] := by
      unfold Pl.form
      rw [if_neg (by rw [hpt]; simp)]
      rcases hs with ⟨rfl, rfl⟩ | ⟨rfl, rfl⟩
      · rw [if_pos rfl]
        by_cases h : pt < 128
        · rw [if_pos h, if_pos (by omega)]
        · rw [if_neg h, if_neg (by omega)]
      · rw [if_neg (by decide), if_pos rfl]
        by_cases h : pt < 256
        · rw [if_pos h, if_pos (by omega)]
        · rw [if_neg h, if_neg (by omega)]
    rw [this]
    exact h1
  back := fun _ _ _ h => h.back 35 9 Tryz.underlying35 Tryz.underlying5 Tryz.underlying9
set_option maxRecDepth 20000 in
theorem putter3 (m1 m2 : Nat) (W : World) (hN : Nine W m1 m2) : Putter 3 100 (.agg #[.map (some m1), .map (some m2)]) 190 (Own W.heap.size) W where
  meth := fun _ => by kernel_rfl
  enters := enters_of Tryz.func190 (by kernel_rfl) rfl
  start := Own.nil _
  shape := fun _ _ _ h => h.flat
  put := fun pt v p w hpt hown hl hb => by
    have hr := isPt_range hpt
    refine (implPut3 pt hr.1 hr.2 v p m1 m2 W w hown (by omega) hb (hN.below hb)).mono ?_
    rintro e w' ⟨v', rfl, h1, h2⟩
    refine ⟨v', rfl, ?_, h2⟩
    unfold Pl.form
    rw [if_neg (by rw [hpt]; simp), if_neg (by decide), if_neg (by decide), if_pos rfl]
    exact h1
  back := fun _ _ _ h => h.back 35 9 Tryz.underlying35 Tryz.underlying5 Tryz.underlying9
set_option maxRecDepth 20000 in
theorem putter4 (W : World) : Putter 4 103 (.agg #[]) 192 (OwF W.heap.size) W where
  meth := fun _ => by kernel_rfl
  enters := enters_of Tryz.func192 (by kernel_rfl) rfl
  start := fun w => World.ownsRowF_nil w _ _ _
  shape := fun _ _ _ h => h.flat
  put := fun pt v p w hpt hown hl hb => implPut4 pt hpt v p _ W w hown (by omega) (Nat.le_refl _) hb
  back := fun _ _ _ h => h.back 35 9 Tryz.underlying35 Tryz.underlying5 Tryz.underlying9
set_option maxRecDepth 20000 in
theorem putter5 (W : World) : Putter 5 104 (.agg #[]) 196 (Own W.heap.size) W where
  meth := fun _ => by kernel_rfl
  enters := enters_of Tryz.func196 (by kernel_rfl) rfl
  start := Own.nil _
  shape := fun _ _ _ h => h.flat
  put := fun pt v p w hpt hown hl hb => implPut5 pt hpt v p _ W w hown (by omega) (Nat.le_refl _) hb
  back := fun _ _ _ h => h.back 35 9 Tryz.underlying35 Tryz.underlying5 Tryz.underlying9
/-- What both sides answer to a set and points. -/
def encA (set : Int) (ps : List Int) : Option (List UInt8) := if set < 1 ∨ 5 < set ∨ 100000 < ps.length then none else Pl.enc (Pl.form set) [] ps
set_option maxRecDepth 20000 in
set_option maxHeartbeats 1000000 in
theorem implEncode (set : Int) (o : Option Addr) (ps : List Int) (cap : Nat) (w : World) (hF : PtsAt w.heap.size w o ps) (hlen : ps.length ≤ 1048576) :
    Calls Tryz.prog 18 #[.int .i64 set, .slice o ps.length cap] w fun e w' => e = .returned (encV (encA set ps)) ∧ Below w.heap.size w w' := by
  unfold encA
  by_cases h : set < 1 ∨ 5 < set
  · rw [if_pos (by omega)]
    have hres0 : (w.alloc (.cells #[.bool false, .string ⟨#[]⟩] 31)).heap[w.heap.size]? = some (.cells #[.bool false, .string ⟨#[]⟩] 31 (0, 0)) := heap_alloc_at _ _
    clear hF
    go_enter Tryz.func18, Tryz.ntmps18
    go_wp2_with fail
    refine (implChars0 set _ h).mono ?_
    rintro e w2 ⟨rfl, rfl⟩
    go_wp2_with (first | (refine wpL_store_row rfl 31 _ _ rfl w.heap.size #[.bool false, .string ⟨#[]⟩] rfl rfl 31 _ hres0 (by kernel_rfl) rfl (by simp [Value.oneCell']) ?_) | go_in)
    exact retV _ _ _ _ rfl hres0 ((Below.refl _ _).alloc (Nat.le_refl _) _)
  · have hch : ∀ w, Calls Tryz.prog 40 #[.int .i64 set] w fun e W => ∃ T rv f O, e = .returned (.iface T rv) ∧ Below w.heap.size w W ∧ Putter set T rv f O W := by
      intro w
      have hset : set = 1 ∨ set = 2 ∨ set = 3 ∨ set = 4 ∨ set = 5 := by omega
      rcases hset with rfl | rfl | rfl | rfl | rfl
      · refine (implChars1 w).mono ?_
        rintro e W ⟨rfl, rfl⟩
        exact ⟨_, _, _, _, rfl, Below.refl _ _, putter12 1 127 (.inl ⟨rfl, rfl⟩) _⟩
      · refine (implChars2 w).mono ?_
        rintro e W ⟨rfl, rfl⟩
        exact ⟨_, _, _, _, rfl, Below.refl _ _, putter12 2 255 (.inr ⟨rfl, rfl⟩) _⟩
      · refine (implChars3 w).mono ?_
        rintro e W ⟨m1, m2, rfl, hN, -, -, hb⟩
        exact ⟨_, _, _, _, rfl, hb, putter3 m1 m2 W hN⟩
      · refine (implChars4 w).mono ?_
        rintro e W ⟨rfl, rfl⟩
        exact ⟨_, _, _, _, rfl, Below.refl _ _, putter4 _⟩
      · refine (implChars5 w).mono ?_
        rintro e W ⟨rfl, rfl⟩
        exact ⟨_, _, _, _, rfl, Below.refl _ _, putter5 _⟩
    by_cases hl : 100000 < ps.length
    · rw [if_pos (by omega)]
      clear hF
      go_enter Tryz.func18, Tryz.ntmps18
      go_wp2_with fail
      refine (hch _).mono ?_
      rintro e W ⟨T, rv, f, O, rfl, hbW, hP⟩
      have hres0 : W.heap[w.heap.size]? = some (.cells #[.bool false, .string ⟨#[]⟩] 31 (0, 0)) := (hbW.block _ (by simp)).trans (heap_alloc_at _ _)
      have hbel0 : Below w.heap.size w W := ((Below.refl _ _).alloc (Nat.le_refl _) _).trans (hbW.mono (by simp))
      go_wp2_with (first | (refine wpL_store_row rfl 31 _ _ rfl w.heap.size #[.bool false, .string ⟨#[]⟩] rfl rfl 31 _ hres0 (by kernel_rfl) rfl (by simp [Value.oneCell']) ?_) | go_in)
      exact retV _ _ _ _ rfl hres0 hbel0
    · rw [if_neg (by omega)]
      exact implEnc set o ps cap w hF (by omega) hch
end Go.Proofs.YtajkahpkbeobaaaGreatDoor
namespace Go.Proofs.YtajkahpkbeobaaaGreatDoor
open Go.RowKit Go.Lib Go.Maps
set_option maxRecDepth 20000 in
/-- An append of bytes that lie in a slice of their own. -/
theorem wp_appo {P : Program} {W w : World} {ops : Array Oper} {rest : List Oper} {o : Oper} {a : Act} {Q : Exit → Act → World → Prop} (hgd : o.guard = none) (s x : Operand) (t : TypeId)
    (ho : o.op = .call { callee := .builtin .append, args := #[s, x], argTypes := #[t, t] })
    (i : TypeInfo) (ht : P.underlying t = some (.slice 5)) (hi : P.info? 5 = some i) (hz : i.zero = some (.int .u8 0)) (hsize : i.size = 1) (hby : i.bytes = 1)
    (B : Nat) (v : Value) (p : List UInt8) (hs : a.eval s = v) (hown : Own B v p w) (B2 : Nat) (v2 : Value) (news : List UInt8) (hx : a.eval x = v2) (hown2 : Own B2 v2 news w) (hne : news ≠ [])
    (hlen : p.length + news.length ≤ 140737488355328) (hB : B ≤ W.heap.size) (hb : Below B W w)
    (h : ∀ v' w', Own B v' (p ++ news) w' → Below B W w' → wpList P ops Q rest (a.put o.dst v') w') : wpList P ops Q (o :: rest) a w := by
  have hsz := hb.size
  rcases hown2.form with ⟨-, h0⟩ | ⟨g, cap, rfl⟩
  · exact absurd h0 hne
  refine wpList_append_own _ hgd s x t ho B 5 i (.int .u8 0) 1 1 ht hi hz hsize hby rfl (by decide) v p.length (byteCells p) hs hown ⟨g, 0, none⟩ news.length cap (byteCells news) hx
    (by rw [byteCells_length, Nat.mul_one]) ?_ ?_ (by unfold maxLen; omega) (by omega) (by omega) ?_
  · intro j u hj
    have hj2 : j < news.length := by
      have := (List.getElem?_eq_some_iff.1 hj).1
      simpa [byteCells_length] using this
    rw [add_off, hown2.cell j hj2]
    simpa [byteCells, hj2] using hj
  · intro u hu
    simp only [byteCells, List.mem_map] at hu
    obtain ⟨b, -, rfl⟩ := hu
    rfl
  · intro v' w' h1 h2 _
    refine h v' w' ?_ ?_
    · unfold Own
      rw [byteCells_append, List.length_append]
      exact h1
    · exact hb.grown h2 (by omega) (fun k hk => (World.ownsRow.lt hown k hk).1)
set_option maxRecDepth 20000 in
theorem Own.keepb {B : Nat} {v : Value} {p : List UInt8} {w w' : World} (h : Own B v p w) (hb : Below w.heap.size w w') : Own B v p w' := by
  obtain ⟨h1, h2⟩ := h
  refine ⟨h1, ?_⟩
  rcases h2 with h2 | ⟨g, cap, cur, e1, e2, e3, e4⟩
  · exact .inl h2
  · refine .inr ⟨g, cap, cur, e1, e2, ?_, e4⟩
    rw [hb.block g (heap_lt e3)]
    exact e3
set_option maxRecDepth 20000 in
/-- Encode's way out, the specification's. -/
theorem retS (w wr : World) (tmps : Array Value) (cs : Array Value) (p0 : Nat) (hp0 : Tryz.f8.results = #[.cell p0 31]) (hp : tmps.getD p0 undef = .pointer (some ⟨w.heap.size, 0, none⟩)) {old : Array Value} (hres : wr.heap[w.heap.size]? = some (.cells old 31 (0, 0))) (hb : Below w.heap.size w wr) (h2 : cs.size = 2 := by rfl) :
    bodyPost Tryz.prog Tryz.f8 (fun e w' => e = .returned (.agg cs) ∧ Below w.heap.size w w') Exit.ret { tmps := tmps, defers := [] } (wr.setRow w.heap.size cs) := by
  refine bodyPost_ret (v := .agg cs) (results_cell_row hp0 _ _ w.heap.size 31 _ (0, 0) _ hp (setRow_heap _ _ _ _ _ _ hres) Tryz.underlying31 rfl ?_) rfl ⟨rfl, hb.grown (grown_setRow _ _ _) hb.size (fun j hj => by cases hj; exact Nat.le_refl _)⟩
  rw [h2]
  kernel_rfl
set_option maxRecDepth 20000 in
set_option maxHeartbeats 1000000 in
theorem specEncode (set : Int) (o : Option Addr) (ps : List Int) (cap : Nat) (w : World) (hF : PtsAt w.heap.size w o ps) (hlen : ps.length ≤ 1048576) :
    Calls Tryz.prog 8 #[.int .i64 set, .slice o ps.length cap] w fun e w' => e = .returned (encV (encA set ps)) ∧ Below w.heap.size w w' := by
  unfold encA
  have hres0 : (w.alloc (.cells #[.bool false, .string ⟨#[]⟩] 31)).heap[w.heap.size]? = some (.cells #[.bool false, .string ⟨#[]⟩] 31 (0, 0)) := heap_alloc_at _ _
  have hbel0 : Below w.heap.size w (w.alloc (.cells #[.bool false, .string ⟨#[]⟩] 31)) := (Below.refl _ _).alloc (Nat.le_refl _) _
  by_cases hl : 100000 < ps.length
  · rw [if_pos (by omega)]
    clear hF
    go_enter Tryz.func8, Tryz.ntmps8
    go_wp2_with (first | (refine wpL_store_row rfl 31 _ _ rfl w.heap.size #[.bool false, .string ⟨#[]⟩] rfl rfl 31 _ hres0 (by kernel_rfl) rfl (by simp [Value.oneCell']) ?_) | go_in)
    exact retS _ _ _ _ 4 Tryz.results8 rfl hres0 hbel0
  · by_cases h : set < 1 ∨ 5 < set
    · rw [if_pos (by omega)]
      clear hF
      go_enter Tryz.func8, Tryz.ntmps8
      go_wp2_with fail
      refine (specNameE set _).mono ?_
      rintro e w2 ⟨t, rfl, ht, rfl⟩
      rw [decide_eq_true h] at ht
      go_wp2_with (first | (refine wpL_store_row rfl 31 _ _ rfl w.heap.size #[.bool false, .string ⟨#[]⟩] rfl rfl 31 _ hres0 (by kernel_rfl) rfl (by simp [Value.oneCell']) ?_) | go_in)
      exact retS _ _ _ _ 4 Tryz.results8 rfl hres0 hbel0
    · rw [if_neg (by omega)]
      go_enter Tryz.func8, Tryz.ntmps8
      go_wp2_with fail
      refine (specNameE set _).mono ?_
      rintro e w2 ⟨t, rfl, ht, rfl⟩
      rw [decide_eq_false h] at ht
      have hsz0 : (w.alloc (.cells #[.bool false, .string ⟨#[]⟩] 31)).heap.size = w.heap.size + 1 := by simp
      obtain ⟨i0, hi, hy0, hy1, hy2⟩ := info_parts Tryz.info5
      have HW : Hid (PtsAt (w.alloc (.cells #[.bool false, .string ⟨#[]⟩] 31)).heap.size (w.alloc (.cells #[.bool false, .string ⟨#[]⟩] 31)) o ps) := show _ from (hF.below hbel0).mono hbel0.size
      clear hF
      have hset : 1 ≤ set ∧ set ≤ 5 := by omega
      have hlen2 : ps.length ≤ 100000 := by omega
      clear hl h hlen
      go_wp2
      clear ht
      obtain ⟨W, hW⟩ : ∃ W, W = w.alloc (.cells #[.bool false, .string ⟨#[]⟩] 31) := ⟨_, rfl⟩
      rw [← hW] at hres0 hbel0 hsz0 HW ⊢
      have hown0 := Own.made W.heap.size W (Nat.le_refl _)
      rw [show (⟨W.heap.size, 0, none⟩ : Addr) = ⟨w.heap.size + 1, 0, none⟩ by rw [hsz0]] at hown0
      have hbW0 : Below W.heap.size W (W.alloc (.cells #[] 5)) := (Below.refl _ _).alloc (Nat.le_refl _) _
      go_loopw [5, 6] (fun v i wr => ∃ (k : Nat) (p : List UInt8), k ≤ ps.length ∧ i = .int .i64 k ∧ p.length ≤ 4 * k ∧ Hid (Pl.enc (Pl.form set) p (ps.drop k) = Pl.enc (Pl.form set) [] ps) ∧ Own W.heap.size v p wr ∧ Below W.heap.size W wr) (fun _ i _ => ps.length - (Lib.intOf i).toNat)
      case atStart => exact ⟨0, [], Nat.zero_le _, rfl, by simp, rfl, hown0, hbW0⟩
      case round =>
        obtain ⟨k, p, hk, rfl, hpl, hp, hown, hb⟩ := hrel
        have hres := (hb.block w.heap.size (by omega)).trans hres0
        have hbw := hbel0.trans (hb.mono hbel0.size)
        by_cases hlt : k < ps.length
        · obtain ⟨a, rfl, ha, hc0⟩ := (HW.out.below hb) k hlt
          have Hbad : Hid (Pl.form set ps[k] = [] → Pl.enc (Pl.form set) [] ps = none) := show _ → _ from fun h => Pl.enc_bad hlt h hp.out
          have Hstep : Hid (Pl.form set ps[k] ≠ [] → Pl.enc (Pl.form set) (p ++ Pl.form set ps[k]) (ps.drop (k + 1)) = Pl.enc (Pl.form set) [] ps) := show _ → _ from fun h => Pl.enc_step hlt h hp.out
          have Hfl := Pl.form_len set ps[k]
          clear hp
          generalize ps[k] = pt at hc0 Hbad Hstep Hfl
          have hfo := specForm set pt hset wr
          go_wp2_with fail
          refine hfo.mono ?_
          rintro e w3 ⟨v3, rfl, hown3, hb3⟩
          clear hfo
          have hbW3 := hb.trans (hb3.mono hb.size)
          have hown' := hown.keepb hb3
          have hres3 := (hbW3.block w.heap.size (by omega)).trans hres0
          have hbw3 := hbel0.trans (hbW3.mono hbel0.size)
          by_cases hnil : Pl.form set pt = []
          · have hE : Hid (Pl.enc (Pl.form set) [] ps = none) := Hbad.out hnil
            obtain ⟨o3, c3, rfl⟩ := hown3.flat
            rw [hnil]
            clear Hbad Hstep
            go_wp2_with (first | (refine wpL_store_row rfl 31 _ _ rfl w.heap.size #[.bool false, .string ⟨#[]⟩] rfl rfl 31 _ hres3 (by kernel_rfl) rfl (by simp [Value.oneCell']) ?_) | go_in)
            rw [hE.out]
            exact retS _ _ _ _ 4 Tryz.results8 rfl hres3 hbw3
          · have hE : Hid (Pl.enc (Pl.form set) (p ++ Pl.form set pt) (ps.drop (k + 1)) = Pl.enc (Pl.form set) [] ps) := Hstep.out hnil
            have hl1 : 0 < (Pl.form set pt).length := List.length_pos_iff.2 hnil
            have Hown3 : Hid (Own wr.heap.size v3 (Pl.form set pt) w3) := hown3
            obtain ⟨o3, c3, rfl⟩ := hown3.flat
            generalize Pl.form set pt = news at Hfl hE hl1 Hown3 hnil
            have hne : ¬ ((news.length : Int) = 0) := by omega
            clear Hbad Hstep hown3 hown
            go_wp2_with (at_builtin; go_must (refine wp_appo (W := W) rfl _ _ 35 rfl i0 Tryz.underlying35 hi hy0 hy1 hy2 W.heap.size _ p rfl hown' wr.heap.size _ news rfl Hown3.out hnil (by omega) (Nat.le_refl _) hbW3 ?_; intro v4 w4 hown4 hb4))
            go_roundw
            case rel => exact ⟨k + 1, _, by omega, by go_num, by rw [List.length_append]; omega, hE, hown4, hb4⟩
            case measure => simp [Lib.intOf]; omega
        · have hpn : Hid (Pl.enc (Pl.form set) [] ps = some p) := show _ = _ from Pl.enc_done (by omega) hp.out
          clear hp
          have hbk := hown.back (P := Tryz.prog) 35 9 Tryz.underlying35 Tryz.underlying5 Tryz.underlying9
          go_wp2_with (first | (refine wpL_store_row rfl 31 _ _ rfl w.heap.size #[.bool true, .string ⟨p.toArray⟩] rfl rfl 31 _ hres (by kernel_rfl) rfl (by simp [Value.oneCell']) ?_) | go_in)
          rw [hpn.out]
          exact retS _ _ _ _ 4 Tryz.results8 rfl hres hbw
end Go.Proofs.YtajkahpkbeobaaaGreatDoor
namespace Go.Proofs.YtajkahpkbeobaaaGreatDoor
open Go.RowKit Go.Lib Go.Maps
set_option maxRecDepth 20000 in
theorem Pw.rd_len : ∀ (n : Nat) (b : Bool) (l : List UInt8), l.length ≤ n → (Pw.rd b l).length ≤ l.length
  | n, b, [], _ => by rw [Pw.rd_nil]; simp
  | 0, b, c :: r, h => by simp at h
  | n + 1, b, c :: r, h => by
    have hne : c :: r ≠ [] := List.cons_ne_nil _ _
    have hl := Pw.rs_len (c :: r)
    have hlt := Pw.rs_lt (c :: r) hne
    generalize c :: r = l at *
    cases hp : Pw.word (Pw.wd l) with
    | none =>
      have ih := Pw.rd_len n false (Pw.rs l) (by omega)
      rw [Pw.rd_text b l hne hp, List.length_append, List.length_append, Pw.pts_len, Pw.pts_len]
      omega
    | some ps =>
      have ih := Pw.rd_len n true (Pw.rs l) (by omega)
      have hw := Pw.word_len _ _ hp
      rw [Pw.rd_word b l ps hne hp, List.length_append, List.length_append]
      cases b
      · rw [if_neg (by decide), Pw.pts_len]
        omega
      · rw [if_pos rfl, List.length_nil]
        omega
/-- What is read: nothing of what is too long. -/
def rwOf (s : ByteArray) : List Int := if s.size ≤ 100000 then Pw.rd false s.data.toList else []
set_option maxRecDepth 20000 in
theorem rwOf_len (s : ByteArray) : (rwOf s).length ≤ 100000 := by
  unfold rwOf
  split
  · have := Pw.rd_len _ false s.data.toList (Nat.le_refl _)
    have h2 : s.data.toList.length = s.size := by simp
    omega
  · simp
/-- What the program's walk asks of a world. -/
structure RwW (w : World) : Prop where
  tabs : Lib.Utf8Tabs 2 3 w
  err : ErrCell w
  most : ∃ m : Int, w.cell? ⟨1, 0, none⟩ = some (.int .i64 m)
  names : ∃ (ct : TypeId) (fr : Nat × Nat), w.heap[0]? = some (.cells arr ct fr)
set_option maxRecDepth 20000 in
theorem RwW.below {w w' : World} (h : RwW w) (hb : Below w.heap.size w w') : RwW w' where
  tabs := tabsD_below h.tabs hb
  err := h.err.below hb
  most := by
    obtain ⟨m, hm⟩ := h.most
    exact ⟨m, (hb.cell (p := ⟨1, 0, none⟩) (World.block_lt_of_cell? _ _ hm)).trans hm⟩
  names := by
    obtain ⟨ct, fr, hC⟩ := h.names
    exact ⟨ct, fr, (hb.block _ (heap_lt hC)).trans hC⟩
set_option maxRecDepth 40000 in
set_option maxHeartbeats 1000000 in
theorem implReadAny (s : ByteArray) (w : World) (hs : s.size ≤ 1048576) (h : RwW w) :
    Calls Tryz.prog 19 #[.string s] w fun e w' => ∃ v, e = .returned v ∧ OwnN w.heap.size v (rwOf s) w' ∧ Below w.heap.size w w' := by
  unfold rwOf
  by_cases hl : s.size ≤ 100000
  · rw [if_pos hl]
    obtain ⟨m, hm⟩ := h.most
    obtain ⟨ct, fr, hC⟩ := h.names
    exact implReadWords s w hl h.tabs h.err m hm ct fr hC
  · rw [if_neg hl]
    have hl2 : (100000 : Int) < (s.size : Int) := by omega
    have cT : Calls Tryz.prog 35 #[.string s] w fun e w' => e = .returned (.bool true) ∧ w = w' := by
      go_enter Tryz.func35, Tryz.ntmps35
      go_wp2
      go_ret
      exact ⟨rfl, rfl⟩
    clear h
    go_enter Tryz.func19, Tryz.ntmps19
    go_wp2_with fail
    refine cT.mono ?_
    rintro e w2 ⟨rfl, rfl⟩
    go_wp2
    go_ret
    exact ⟨_, rfl, OwnN.nil _ _, Below.refl _ _⟩
set_option maxRecDepth 40000 in
set_option maxHeartbeats 1000000 in
theorem specReadAny (s : ByteArray) (w : World) (hs : s.size ≤ 1048576) :
    Calls Tryz.prog 9 #[.string s] w fun e w' => ∃ v, e = .returned v ∧ OwnN w.heap.size v (rwOf s) w' ∧ Below w.heap.size w w' := by
  unfold rwOf
  by_cases hl : s.size ≤ 100000
  · rw [if_pos hl]
    exact specReadWords s w hl
  · rw [if_neg hl]
    have hl2 : (100000 : Int) < (s.size : Int) := by omega
    go_enter Tryz.func9, Tryz.ntmps9
    go_wp2
    go_ret
    exact ⟨_, rfl, OwnN.madeD _ w (Nat.le_refl _), (Below.refl _ _).alloc (Nat.le_refl _) _⟩
end Go.Proofs.YtajkahpkbeobaaaGreatDoor
