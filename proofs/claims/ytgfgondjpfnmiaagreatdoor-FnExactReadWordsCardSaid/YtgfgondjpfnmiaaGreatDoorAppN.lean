
/- A point taken from bytes, in each of the sets: the program's side. -/

/- A point taken from bytes in utf-16: the program's side. -/

/- Lists of numbers (int64) that a call has made: appended to, marked, the marks asked for. -/

/- An append of one number, of one text. -/
import Derived.Test.YtgfgondjpfnmiaaGreatDoorDcPlain
import Derived.Lib.QuietBelow
import Derived.Test.YtgfgondjpfnmiaaGreatDoorPhrasePlain
namespace Go.Proofs.YtgfgondjpfnmiaaGreatDoor
open Go.RowKit Go.Lib Go.Maps
def tkV (x : Option (Int × Nat)) : Value := match x with | some (p, n) => .tuple #[.int .i64 p, .int .i64 n] | none => .tuple #[.int .i64 0, .int .i64 0]
set_option maxRecDepth 20000 in
theorem getD_first (s : ByteArray) (h : 0 < s.size) : s.data.toList.getD 0 0 = s[0] := by
  obtain ⟨⟨l⟩⟩ := s
  cases l with
  | nil => exact absurd h (by show ¬ 0 < 0; omega)
  | cons a r => rfl
set_option maxRecDepth 20000 in
set_option maxHeartbeats 1000000 in
theorem implTake12 (set top : Int) (hs : set = 1 ∧ top = 127 ∨ set = 2 ∧ top = 255) (s : ByteArray) (h0 : 0 < s.size) (w : World) : Calls Tryz.prog 141 #[.agg #[.int .i64 top], .string s] w fun e w' => e = .returned (tkV (Pd.take set s.data.toList)) ∧ Below w.heap.size w w' := by
  have h8 : s[0].toNat < 256 := UInt8.toNat_lt _
  have hz : Below w.heap.size w (w.alloc (.cells #[.int .i64 top] 97)) := (Below.refl _ _).alloc (Nat.le_refl _) _
  have i0 : (0 : Int) < (s.size : Int) := by omega
  have e : Pd.take set s.data.toList = if (s[0].toNat : Int) ≤ top then some ((s[0].toNat : Int), 1) else none := by
    unfold Pd.take
    rw [getD_first s h0]
    rcases hs with ⟨rfl, rfl⟩ | ⟨rfl, rfl⟩
    · rw [if_pos rfl]
      by_cases h : s[0].toNat < 128
      · rw [if_pos h, if_pos (by omega)]
      · rw [if_neg h, if_neg (by omega)]
    · rw [if_neg (by decide), if_pos rfl, if_pos (by omega)]
  rw [e]
  clear e hs
  generalize hsk : s[0] = c at *
  by_cases h : (c.toNat : Int) ≤ top
  · rw [if_pos h]
    go_enter Tryz.func141, Tryz.ntmps141
    go_wp2
    go_ret2
    exact ⟨rfl, hz⟩
  · rw [if_neg h]
    go_enter Tryz.func141, Tryz.ntmps141
    go_wp2
    go_ret2
    exact ⟨rfl, hz⟩
set_option maxRecDepth 20000 in
theorem nineLook {w : World} {m1 m2 : Nat} (hN : Nine w m1 m2) (c : UInt8) : Sem.run Tryz.prog (Instr.lookup 98 (.map (some m1)) (.int .u8 (c.toNat : Int)) true) w = .ok (.tuple #[.int .i64 ((Pl.nineOf c.toNat).getD 0), .bool (Pl.nineOf c.toNat).isSome]) w := by
  have h8 : c.toNat < 256 := UInt8.toNat_lt _
  have hwf8 : (Lit.int .u8 (c.toNat : Int)).wf = true := WalkArith.wf_u8 (by omega)
  obtain ⟨v, ps, h1, h2⟩ := hN.points.look_ok law8 Tryz.underlying98 (zero64 w) (plainElem_int Tryz.underlying2 (by decide)) (keyOf_int_mk Tryz.underlying5 hwf8)
  obtain ⟨c2, rfl, hc, hwc⟩ := plainElem_int_inv Tryz.underlying2 h2
  rw [h1, Pl.nineD_has]
  have e := congrArg Prod.fst hc
  rw [Pl.nineD_at] at e
  have : c2 = (Pl.nineOf c.toNat).getD 0 := by
    cases hx : Pl.nineOf (c.toNat : Int) with
    | none => rw [hx] at e; cases e; rfl
    | some x => rw [hx] at e; cases e; rfl
  rw [this]
set_option maxRecDepth 20000 in
set_option maxHeartbeats 1000000 in
theorem implTake3 (m1 m2 : Nat) (s : ByteArray) (h0 : 0 < s.size) (w : World) (hN : Nine w m1 m2) : Calls Tryz.prog 143 #[.agg #[.map (some m1), .map (some m2)], .string s] w fun e w' => e = .returned (tkV (Pd.take 3 s.data.toList)) ∧ Below w.heap.size w w' := by
  have h8 : s[0].toNat < 256 := UInt8.toNat_lt _
  have i0 : (0 : Int) < (s.size : Int) := by omega
  have e : Pd.take 3 s.data.toList = some (Pd.nineV s[0].toNat, 1) := by
    unfold Pd.take
    rw [getD_first s h0, if_neg (by decide), if_neg (by decide), if_pos rfl]
  rw [e]
  clear e
  obtain ⟨W, hW⟩ : ∃ W, W = w.alloc (.cells #[.map (some m1), .map (some m2)] 101) := ⟨_, rfl⟩
  have hz : Below w.heap.size w W := by rw [hW]; exact (Below.refl _ _).alloc (Nat.le_refl _) _
  have hc : W.cell? ⟨w.heap.size, 0, none⟩ = some (.map (some m1)) := by rw [hW]; simp
  have hL := fun d os => nineLook ((hN.below hz).below (below_regrown W d os)) s[0]
  have hC := cell_regrown hc
  generalize hsk : s[0] = c at *
  unfold Pd.nineV
  clear hN hc
  have HW := mkHid hW
  clear hW
  cases hx : Pl.nineOf (c.toNat : Int) with
  | none =>
    rw [hx] at hL
    go_enter Tryz.func143, Tryz.ntmps143
    go_wp2
    rw [← HW.out]
    refine wp_region_quiet_below (by kernel_rfl) (by kernel_rfl) ?_
    repeat (quiet_step (fail))
    refine wpQuiet_nil ?_
    intro _ hw'
    obtain ⟨⟨dq, osq⟩, hw''⟩ := hw'
    subst hw''
    have hbq := hz.trans ((below_regrown W dq osq).mono hz.size)
    go_wp2
    go_ret2
    exact ⟨rfl, hbq⟩
  | some x =>
    rw [hx] at hL
    go_enter Tryz.func143, Tryz.ntmps143
    go_wp2
    rw [← HW.out]
    refine wp_region_quiet_below (by kernel_rfl) (by kernel_rfl) ?_
    repeat (quiet_step (fail))
    refine wpQuiet_nil ?_
    intro _ hw'
    obtain ⟨⟨dq, osq⟩, hw''⟩ := hw'
    subst hw''
    have hbq := hz.trans ((below_regrown W dq osq).mono hz.size)
    go_wp2
    go_ret2
    exact ⟨rfl, hbq⟩
set_option maxRecDepth 20000 in
theorem tabsD_below {w w' : World} (h : Lib.Utf8Tabs 2 3 w) (hb : Below w.heap.size w w') : Lib.Utf8Tabs 2 3 w' := by
  refine ⟨fun c hc => ?_, fun i hi => ?_⟩
  · have := h.1 c hc
    exact (hb.cell (World.block_lt_of_cell? _ _ this)).trans this
  · obtain ⟨h0, h1⟩ := h.2 i hi
    exact ⟨(hb.cell (World.block_lt_of_cell? _ _ h0)).trans h0, (hb.cell (World.block_lt_of_cell? _ _ h1)).trans h1⟩
set_option maxRecDepth 20000 in
theorem decode_small (l : List UInt8) : (decodeL l).1 ≤ 2097151 ∧ (decodeL l).2 ≤ 4 := by
  have hN := Pu.decL l
  have hv := Pd.decodeN_val l.length (l.getD 0 0).toNat (l.getD 1 0).toNat (l.getD 2 0).toNat (l.getD 3 0).toNat
  rw [← hN] at hv
  have h8 : (l.getD 0 0).toNat < 256 := UInt8.toNat_lt _
  omega
set_option maxRecDepth 20000 in
set_option maxHeartbeats 1000000 in
theorem implTake4 (s : ByteArray) (h0 : 0 < s.size) (w : World) (hT : Lib.Utf8Tabs 2 3 w) : Calls Tryz.prog 145 #[.agg #[], .string s] w fun e w' => e = .returned (tkV (Pd.take 4 s.data.toList)) ∧ Below w.heap.size w w' := by
  have hne : s.data.toList ≠ [] := fun e => by have h1 : s.data.toList.length = s.size := by simp
                                               rw [e] at h1; simp at h1; omega
  have hd : Lib.decodeGo s = decodeL s.data.toList := by
    unfold Lib.decodeGo decodeL
    rw [if_neg (by omega)]
  have hb : Below w.heap.size w (w.alloc (.cells #[] 104)) := (Below.refl _ _).alloc (Nat.le_refl _) _
  have cD := mkHid (Tryz.utf8_DecodeRuneInString s (w.alloc (.cells #[] 104)) (tabsD_below hT hb))
  rw [hd] at cD
  have hk := Pd.take_utf s.data.toList hne
  have hsm := decode_small s.data.toList
  rw [← hk]
  generalize decodeL s.data.toList = v at *
  obtain ⟨v1, v2⟩ := v
  dsimp only at *
  obtain ⟨z1, z2⟩ := hsm
  have Hb := mkHid hb
  clear hk hd hne hT hb
  by_cases e1 : v1 = 65533
  · subst e1
    by_cases e2 : v2 = 1
    · subst e2
      rw [if_pos ⟨rfl, rfl⟩]
      go_enter Tryz.func145, Tryz.ntmps145
      go_wp2_with fail
      refine cD.out.mono ?_
      rintro e w1 ⟨rfl, hb1⟩
      have Hb1 := mkHid (Hb.out.trans (hb1.mono Hb.out.size))
      clear hb1 Hb cD
      go_wp2
      go_ret2
      exact ⟨rfl, Hb1.out⟩
    · rw [if_neg (fun h => e2 h.2)]
      have e3 : ((v2 : Int) == 1) = false := by rw [beq_eq_false_iff_ne]; omega
      clear e2
      go_enter Tryz.func145, Tryz.ntmps145
      go_wp2_with fail
      refine cD.out.mono ?_
      rintro e w1 ⟨rfl, hb1⟩
      have Hb1 := mkHid (Hb.out.trans (hb1.mono Hb.out.size))
      clear hb1 Hb cD
      go_wp2
      go_ret2
      exact ⟨rfl, Hb1.out⟩
  · rw [if_neg (fun h => e1 h.1)]
    have e3 : ((v1 : Int) == 65533) = false := by rw [beq_eq_false_iff_ne]; omega
    clear e1
    go_enter Tryz.func145, Tryz.ntmps145
    go_wp2_with fail
    refine cD.out.mono ?_
    rintro e w1 ⟨rfl, hb1⟩
    have Hb1 := mkHid (Hb.out.trans (hb1.mono Hb.out.size))
    clear hb1 Hb cD
    go_wp2
    go_ret2
    exact ⟨rfl, Hb1.out⟩
end Go.Proofs.YtgfgondjpfnmiaaGreatDoor
namespace Go.Proofs.YtgfgondjpfnmiaaGreatDoor
open Go.RowKit Go.Lib Go.Maps
set_option maxRecDepth 20000 in
theorem wrapD (x : Int) (h0 : -9223372036854775808 ≤ x) (h1 : x ≤ 9223372036854775807) : IntKind.i64.wrap x = x := by
  unfold IntKind.wrap
  simp [IntKind.bits, IntKind.signed]
  omega
set_option maxRecDepth 20000 in
theorem or64D (x y : Nat) (hx : x < 4294967296) (hy : y < 256) : bits .or .i64 ((x : Int) * 256) (y : Int) = ((x * 256 + y : Nat) : Int) := by
  have e : ∀ n : Nat, n < 1099511627776 → (BitVec.ofInt 64 (n : Int)).toNat = n := by
    intro n hn
    rw [BitVec.toNat_ofInt]
    omega
  have h3 : x * 256 ||| y = x * 256 + y := by
    have := Nat.two_pow_add_eq_or_of_lt (i := 8) (b := y) (by omega) x
    rw [Nat.mul_comm] at this
    exact this.symm
  show IntKind.i64.wrap ((BitVec.ofInt 64 ((x : Int) * 256) ||| BitVec.ofInt 64 (y : Int)).toNat : Int) = _
  rw [BitVec.toNat_or, show ((x : Int) * 256) = ((x * 256 : Nat) : Int) by omega, e _ (by omega), e _ (by omega), h3]
  exact wrapD _ (by omega) (by omega)
set_option maxRecDepth 20000 in
set_option maxHeartbeats 1000000 in
theorem implPairNo (s : ByteArray) (k : Nat) (hk : k ≤ 2) (h : s.size < k + 2) (w : World) : Calls Tryz.prog 148 #[.string s, .int .i64 k] w fun e w' => e = .returned (.tuple #[.int .i64 0, .bool false]) ∧ Below w.heap.size w w' := by
  have hsz : (s.size : Int) - (k : Int) < 2 := by omega
  go_enter Tryz.func148, Tryz.ntmps148
  go_wp2
  go_ret2
  exact ⟨rfl, Below.refl _ _⟩
set_option maxRecDepth 20000 in
set_option maxHeartbeats 1000000 in
theorem implPairYes0 (s : ByteArray) (h : 2 ≤ s.size) (hs : s.size ≤ 1100000) (w : World) : Calls Tryz.prog 148 #[.string s, .int .i64 0] w fun e w' => e = .returned (.tuple #[.int .i64 (Pd.two s[0] s[1]), .bool true]) ∧ Below w.heap.size w w' := by
  have h8 : s[0].toNat < 256 := UInt8.toNat_lt _
  have h9 : s[1].toNat < 256 := UInt8.toNat_lt _
  have hsz : ¬ (s.size : Int) - 0 < 2 := by omega
  have i0 : (0 : Int) < (s.size : Int) := by omega
  have i1 : (1 : Int) < (s.size : Int) := by omega
  have ho := or64D s[0].toNat s[1].toNat (by omega) h9
  unfold Pd.two
  generalize hx : s[0] = x at *
  generalize hy : s[1] = y at *
  have n0 : 0 < s.size := by omega
  have n1 : 1 < s.size := by omega
  have wc1 : IntKind.i64.wrap 1 = 1 := by decide
  have wc3 : IntKind.i64.wrap 3 = 3 := by decide
  have wx : IntKind.i64.wrap (x.toNat : Int) = (x.toNat : Int) := wrapD _ (by omega) (by omega)
  have wy : IntKind.i64.wrap (y.toNat : Int) = (y.toNat : Int) := wrapD _ (by omega) (by omega)
  have w1 : IntKind.i64.wrap ((x.toNat : Int) * 256) = (x.toNat : Int) * 256 := wrapD _ (by omega) (by omega)
  go_enter Tryz.func148, Tryz.ntmps148
  go_wp2
  refine wp_region_quiet_below (by kernel_rfl) (by kernel_rfl) ?_
  repeat (quiet_step (fail))
  refine wpQuiet_nil ?_
  intro _ hw'
  obtain ⟨⟨dq, osq⟩, hw''⟩ := hw'
  subst hw''
  have hbq := below_regrown w dq osq
  go_wp2
  go_ret2
  exact ⟨rfl, hbq⟩
set_option maxRecDepth 20000 in
set_option maxHeartbeats 1000000 in
theorem implPairYes2 (s : ByteArray) (h : 4 ≤ s.size) (hs : s.size ≤ 1100000) (w : World) : Calls Tryz.prog 148 #[.string s, .int .i64 2] w fun e w' => e = .returned (.tuple #[.int .i64 (Pd.two s[2] s[3]), .bool true]) ∧ Below w.heap.size w w' := by
  have h8 : s[2].toNat < 256 := UInt8.toNat_lt _
  have h9 : s[3].toNat < 256 := UInt8.toNat_lt _
  have hsz : ¬ (s.size : Int) - 2 < 2 := by omega
  have i0 : (2 : Int) < (s.size : Int) := by omega
  have i1 : (3 : Int) < (s.size : Int) := by omega
  have ho := or64D s[2].toNat s[3].toNat (by omega) h9
  unfold Pd.two
  generalize hx : s[2] = x at *
  generalize hy : s[3] = y at *
  have n0 : 0 < s.size := by omega
  have n1 : 1 < s.size := by omega
  have wc1 : IntKind.i64.wrap 1 = 1 := by decide
  have wc3 : IntKind.i64.wrap 3 = 3 := by decide
  have wx : IntKind.i64.wrap (x.toNat : Int) = (x.toNat : Int) := wrapD _ (by omega) (by omega)
  have wy : IntKind.i64.wrap (y.toNat : Int) = (y.toNat : Int) := wrapD _ (by omega) (by omega)
  have w1 : IntKind.i64.wrap ((x.toNat : Int) * 256) = (x.toNat : Int) * 256 := wrapD _ (by omega) (by omega)
  go_enter Tryz.func148, Tryz.ntmps148
  go_wp2
  refine wp_region_quiet_below (by kernel_rfl) (by kernel_rfl) ?_
  repeat (quiet_step (fail))
  refine wpQuiet_nil ?_
  intro _ hw'
  obtain ⟨⟨dq, osq⟩, hw''⟩ := hw'
  subst hw''
  have hbq := below_regrown w dq osq
  go_wp2
  go_ret2
  exact ⟨rfl, hbq⟩
set_option maxRecDepth 20000 in
theorem list2D (s : ByteArray) (h : 2 ≤ s.size) : ∃ r, s.data.toList = s[0] :: s[1] :: r ∧ r.length + 2 = s.size := by
  obtain ⟨⟨l⟩⟩ := s
  match l, h with
  | a :: b :: r, _ => exact ⟨r, rfl, rfl⟩
set_option maxRecDepth 20000 in
theorem list4D (s : ByteArray) (h : 4 ≤ s.size) : ∃ r, s.data.toList = s[0] :: s[1] :: s[2] :: s[3] :: r := by
  obtain ⟨⟨l⟩⟩ := s
  match l, h with
  | a :: b :: c :: d :: r, _ => exact ⟨r, rfl⟩
set_option maxRecDepth 20000 in
theorem take16_short : ∀ l : List UInt8, l.length < 2 → Pd.take16 l = none
  | [], _ => rfl
  | [_], _ => rfl
  | _ :: _ :: _, h => absurd h (by simp)
set_option maxRecDepth 20000 in
theorem take16_pt (a b : UInt8) (r : List UInt8) (h : Pl.isPt (Pd.two a b) = true) : Pd.take16 (a :: b :: r) = some (Pd.two a b, 2) := by
  unfold Pd.take16
  exact if_pos h
set_option maxRecDepth 20000 in
theorem take16_half (a b : UInt8) (h : Pl.isPt (Pd.two a b) = false) : ∀ r : List UInt8, r.length < 2 → Pd.take16 (a :: b :: r) = none
  | [], _ => by unfold Pd.take16; exact if_neg (by rw [h]; simp)
  | [_], _ => by unfold Pd.take16; exact if_neg (by rw [h]; simp)
  | _ :: _ :: _, hr => absurd hr (by simp)
set_option maxRecDepth 20000 in
theorem take16_four (a b c d : UInt8) (r : List UInt8) (h : Pl.isPt (Pd.two a b) = false) : Pd.take16 (a :: b :: c :: d :: r) = if Pd.two a b < 56320 ∧ 56320 ≤ Pd.two c d ∧ Pd.two c d ≤ 57343 then some (65536 + (Pd.two a b - 55296) * 1024 + (Pd.two c d - 56320), 4) else none := by
  unfold Pd.take16
  exact if_neg (by rw [h]; simp)
set_option maxRecDepth 20000 in
theorem two_lt (a b : UInt8) : 0 ≤ Pd.two a b ∧ Pd.two a b < 65536 := by
  have h8 : a.toNat < 256 := UInt8.toNat_lt _
  have h9 : b.toNat < 256 := UInt8.toNat_lt _
  unfold Pd.two
  omega
set_option maxRecDepth 20000 in
set_option maxHeartbeats 2000000 in
theorem implTake5 (s : ByteArray) (h0 : 0 < s.size) (hs : s.size ≤ 1100000) (w : World) : Calls Tryz.prog 147 #[.agg #[], .string s] w fun e w' => e = .returned (tkV (Pd.take 5 s.data.toList)) ∧ Below w.heap.size w w' := by
  have e5 : Pd.take 5 s.data.toList = Pd.take16 s.data.toList := by
    unfold Pd.take
    rw [if_neg (by decide), if_neg (by decide), if_neg (by decide), if_neg (by decide)]
  rw [e5]
  clear e5
  have hb : Below w.heap.size w (w.alloc (.cells #[] 105)) := (Below.refl _ _).alloc (Nat.le_refl _) _
  have Hb := mkHid hb
  by_cases h2 : 2 ≤ s.size
  · have c1 := mkHid (implPairYes0 s h2 hs (w.alloc (.cells #[] 105)))
    obtain ⟨r, hr, hrl⟩ := list2D s h2
    have ht := two_lt s[0] s[1]
    have hp := mkHid (fun V => implPoint (Pd.two s[0] s[1]) V)
    cases hpt : Pl.isPt (Pd.two s[0] s[1])
    · have hhi : 55296 ≤ Pd.two s[0] s[1] ∧ Pd.two s[0] s[1] ≤ 57343 := by
        unfold Pl.isPt at hpt
        simp only [Bool.and_eq_false_imp, decide_eq_true_eq, Bool.not_eq_false', Bool.and_eq_true] at hpt
        exact hpt ht.1 (by omega)
      by_cases h4 : 4 ≤ s.size
      · obtain ⟨r4, hr4⟩ := list4D s h4
        have hl := two_lt s[2] s[3]
        have e : Pd.take16 s.data.toList = if Pd.two s[0] s[1] < 56320 ∧ 56320 ≤ Pd.two s[2] s[3] ∧ Pd.two s[2] s[3] ≤ 57343 then some (65536 + (Pd.two s[0] s[1] - 55296) * 1024 + (Pd.two s[2] s[3] - 56320), 4) else none := by
          rw [hr4]
          exact take16_four _ _ _ _ _ hpt
        rw [e]
        have c2 := mkHid (fun V => implPairYes2 s h4 hs V)
        rw [hpt] at hp
        clear e hr hr4 hb hpt
        generalize Pd.two s[0] s[1] = x at *
        generalize Pd.two s[2] s[3] = y at *
        obtain ⟨q1, q2⟩ := hhi
        by_cases k1 : x < 56320
        · by_cases k2 : 56320 ≤ y
          · by_cases k3 : y ≤ 57343
            · rw [if_pos ⟨k1, k2, k3⟩]
              go_enter Tryz.func147, Tryz.ntmps147
              go_wp2_with fail
              refine c1.out.mono ?_
              rintro e w1 ⟨rfl, hb1⟩
              have Hb1 := mkHid (Hb.out.trans (hb1.mono Hb.out.size))
              clear c1 hb1 Hb
              go_wp2_with fail
              refine (hp.out _).mono ?_
              rintro e w2 ⟨rfl, rfl⟩
              go_wp2_with fail
              refine (c2.out _).mono ?_
              rintro e w3 ⟨rfl, hb3⟩
              have Hb3 := mkHid (Hb1.out.trans (hb3.mono Hb1.out.size))
              clear c2 hb3 Hb1
              go_wp2
              go_ret2
              exact ⟨rfl, Hb3.out⟩
            · rw [if_neg (fun h => k3 h.2.2)]
              go_enter Tryz.func147, Tryz.ntmps147
              go_wp2_with fail
              refine c1.out.mono ?_
              rintro e w1 ⟨rfl, hb1⟩
              have Hb1 := mkHid (Hb.out.trans (hb1.mono Hb.out.size))
              clear c1 hb1 Hb
              go_wp2_with fail
              refine (hp.out _).mono ?_
              rintro e w2 ⟨rfl, rfl⟩
              go_wp2_with fail
              refine (c2.out _).mono ?_
              rintro e w3 ⟨rfl, hb3⟩
              have Hb3 := mkHid (Hb1.out.trans (hb3.mono Hb1.out.size))
              clear c2 hb3 Hb1
              go_wp2
              go_ret2
              exact ⟨rfl, Hb3.out⟩
          · rw [if_neg (fun h => k2 h.2.1)]
            go_enter Tryz.func147, Tryz.ntmps147
            go_wp2_with fail
            refine c1.out.mono ?_
            rintro e w1 ⟨rfl, hb1⟩
            have Hb1 := mkHid (Hb.out.trans (hb1.mono Hb.out.size))
            clear c1 hb1 Hb
            go_wp2_with fail
            refine (hp.out _).mono ?_
            rintro e w2 ⟨rfl, rfl⟩
            go_wp2_with fail
            refine (c2.out _).mono ?_
            rintro e w3 ⟨rfl, hb3⟩
            have Hb3 := mkHid (Hb1.out.trans (hb3.mono Hb1.out.size))
            clear c2 hb3 Hb1
            go_wp2
            go_ret2
            exact ⟨rfl, Hb3.out⟩
        · rw [if_neg (fun h => k1 h.1)]
          go_enter Tryz.func147, Tryz.ntmps147
          go_wp2_with fail
          refine c1.out.mono ?_
          rintro e w1 ⟨rfl, hb1⟩
          have Hb1 := mkHid (Hb.out.trans (hb1.mono Hb.out.size))
          clear c1 hb1 Hb
          go_wp2_with fail
          refine (hp.out _).mono ?_
          rintro e w2 ⟨rfl, rfl⟩
          go_wp2_with fail
          refine (c2.out _).mono ?_
          rintro e w3 ⟨rfl, hb3⟩
          have Hb3 := mkHid (Hb1.out.trans (hb3.mono Hb1.out.size))
          clear c2 hb3 Hb1
          go_wp2
          go_ret2
          exact ⟨rfl, Hb3.out⟩
      · have e : Pd.take16 s.data.toList = none := by
          rw [hr]
          exact take16_half _ _ hpt r (by omega)
        rw [e]
        have c2 := mkHid (fun V => implPairNo s 2 (by omega) (by omega) V)
        rw [hpt] at hp
        clear e hr hb hpt
        generalize Pd.two s[0] s[1] = x at *
        go_enter Tryz.func147, Tryz.ntmps147
        go_wp2_with fail
        refine c1.out.mono ?_
        rintro e w1 ⟨rfl, hb1⟩
        have Hb1 := mkHid (Hb.out.trans (hb1.mono Hb.out.size))
        clear c1 hb1 Hb
        go_wp2_with fail
        refine (hp.out _).mono ?_
        rintro e w2 ⟨rfl, rfl⟩
        go_wp2_with fail
        refine (c2.out _).mono ?_
        rintro e w3 ⟨rfl, hb3⟩
        have Hb3 := mkHid (Hb1.out.trans (hb3.mono Hb1.out.size))
        clear c2 hb3 Hb1
        go_wp2
        go_ret2
        exact ⟨rfl, Hb3.out⟩
    · have e : Pd.take16 s.data.toList = some (Pd.two s[0] s[1], 2) := by
        rw [hr]
        exact take16_pt _ _ _ hpt
      rw [e]
      rw [hpt] at hp
      clear e hr hb hpt
      generalize Pd.two s[0] s[1] = x at *
      go_enter Tryz.func147, Tryz.ntmps147
      go_wp2_with fail
      refine c1.out.mono ?_
      rintro e w1 ⟨rfl, hb1⟩
      have Hb1 := mkHid (Hb.out.trans (hb1.mono Hb.out.size))
      clear c1 hb1 Hb
      go_wp2_with fail
      refine (hp.out _).mono ?_
      rintro e w2 ⟨rfl, rfl⟩
      go_wp2
      go_ret2
      exact ⟨rfl, Hb1.out⟩
  · have e : Pd.take16 s.data.toList = none := by
      have hl : s.data.toList.length = s.size := by simp
      exact take16_short _ (by omega)
    rw [e]
    have c1 := mkHid (implPairNo s 0 (by omega) (by omega) (w.alloc (.cells #[] 105)))
    clear e hb
    go_enter Tryz.func147, Tryz.ntmps147
    go_wp2_with fail
    refine c1.out.mono ?_
    rintro e w1 ⟨rfl, hb1⟩
    have Hb1 := mkHid (Hb.out.trans (hb1.mono Hb.out.size))
    clear c1 hb1 Hb
    go_wp2
    go_ret2
    exact ⟨rfl, Hb1.out⟩
end Go.Proofs.YtgfgondjpfnmiaaGreatDoor
namespace Go.Proofs.YtgfgondjpfnmiaaGreatDoor
open Go.RowKit Go.Lib Go.Maps
def numCells (P : List Int) : List Value := P.map (.int .i64)
/-- The slice v, whose array is among the blocks from B on, holds just the numbers P. -/
def OwnN (B : Nat) (v : Value) (P : List Int) (w : World) : Prop := w.ownsRow B 2 1 v P.length (numCells P)
set_option maxRecDepth 20000 in
theorem OwnN.nil (B : Nat) (w : World) : OwnN B (.slice none 0 0) [] w := World.ownsRow_nil w B 2 1
set_option maxRecDepth 20000 in
theorem OwnN.shape {B : Nat} {v : Value} {P : List Int} {w : World} (h : OwnN B v P w) : ∃ o cap, v = .slice o P.length cap := by
  rcases h.2 with ⟨rfl, h0⟩ | ⟨g, cap, cur, rfl, -⟩
  · exact ⟨none, 0, by rw [h0]⟩
  · exact ⟨_, cap, rfl⟩
set_option maxRecDepth 20000 in
theorem OwnN.inL {B : Nat} {o : Option Addr} {cap : Nat} {P : List Int} {w : World} (h : OwnN B (.slice o P.length cap) P w) : InL B w.heap.size w o P := by
  intro i hi
  have hl := World.ownsRow.lt h
  rcases h.2 with ⟨h1, h0⟩ | ⟨g, cap', cur, h1, hB, -⟩
  · omega
  · simp only [Value.slice.injEq] at h1
    obtain ⟨rfl, -⟩ := h1
    exact ⟨_, rfl, hB, (hl g rfl).2, World.ownsRow.cells h (g := g) rfl i _ (by simp [numCells, hi])⟩
set_option maxRecDepth 20000 in
theorem OwnN.keep {B : Nat} {v : Value} {P : List Int} {w w' : World} {row : Option Nat} (h : OwnN B v P w) (hg : w.grownBy w' row) (hne : v.ownBlock = none ∨ v.ownBlock ≠ row) : OwnN B v P w' := World.ownsRow.kept h hg hne
set_option maxRecDepth 20000 in
theorem OwnN.below {B : Nat} {v : Value} {P : List Int} {w w' : World} (h : OwnN B v P w) (hb : Below w.heap.size w w') : OwnN B v P w' := World.ownsRow.kept h (row := none) ⟨hb.os, hb.tape, hb.output, hb.size, fun k hk _ => hb.block k hk⟩ (by
  cases hv : v.ownBlock with
  | none => exact .inl rfl
  | some k => exact .inr (by simp))
/-- The numbers from k on. -/
def numsFrom (k n : Nat) : List Int := (List.range n).map fun j => ((k + j : Nat) : Int)
set_option maxRecDepth 20000 in
theorem nums_len (k n : Nat) : (numsFrom k n).length = n := by simp [numsFrom]
set_option maxRecDepth 20000 in
theorem nums_get (k n j : Nat) (h : j < (numsFrom k n).length) : (numsFrom k n)[j] = ((k + j : Nat) : Int) := by simp [numsFrom]
set_option maxRecDepth 20000 in
theorem nums_set (k : Nat) (P : List Int) (i : Nat) (h : i < P.length) : (numsFrom k i ++ P.drop i).set i ((k + i : Nat) : Int) = numsFrom k (i + 1) ++ P.drop (i + 1) := by
  rw [List.drop_eq_getElem_cons h]
  have e : numsFrom k (i + 1) = numsFrom k i ++ [((k + i : Nat) : Int)] := by simp [numsFrom, List.range_succ]
  rw [e, List.set_append, if_neg (by rw [nums_len]; omega), nums_len, Nat.sub_self, List.set_cons_zero, List.append_assoc]
  rfl
set_option maxRecDepth 20000 in
set_option maxHeartbeats 1000000 in
theorem lawMarkInts (o : Option Addr) (P : List Int) (cap B k0 : Nat) (w : World) (hl : P.length ≤ 1048576) (hk0 : k0 ≤ 1000000000000) (h : OwnN B (.slice o P.length cap) P w) :
    Calls Tryz.prog 7 #[.slice o P.length cap, .int .i64 k0] w fun e w' => e = .returned (.int .i64 ((k0 + P.length : Nat) : Int)) ∧ Hid (OwnN B (.slice o P.length cap) (numsFrom k0 P.length) w') ∧ Hid (w.grownBy w' (Value.slice o P.length cap).ownBlock) := by
  have H := mkHid h
  clear h
  go_enter Tryz.func7, Tryz.ntmps7
  go_wp2
  go_loopw [1, 5] (fun m i wr => ∃ k q : Nat, k ≤ P.length ∧ i = .int .i64 k ∧ m = .int .i64 (q : Int) ∧ Hid (q = k0 + k) ∧ Hid (OwnN B (.slice o P.length cap) (numsFrom k0 k ++ P.drop k) wr) ∧ Hid (w.grownBy wr (Value.slice o P.length cap).ownBlock)) (fun _ i _ => P.length - (Lib.intOf i).toNat)
  case atStart => exact ⟨0, k0, Nat.zero_le _, rfl, rfl, rfl, H, ⟨rfl, rfl, rfl, Nat.le_refl _, fun _ _ _ => rfl⟩⟩
  case round =>
    clear H
    obtain ⟨k, q, hk, rfl, rfl, hq, hown, hg⟩ := hrel
    have hqb : q ≤ 2000000000000 := by have := hq.out; omega
    by_cases hlt : k < P.length
    · have hlen : (numsFrom k0 k ++ P.drop k).length = P.length := by simp [nums_len]; omega
      have hset := mkHid (nums_set k0 P k hlt)
      rw [← hq.out] at hset
      generalize numsFrom k0 k ++ P.drop k = cur at *
      have hown' := hown.out
      unfold OwnN at hown'
      rw [hlen] at hown'
      rcases hown'.2 with ⟨h1, h0⟩ | ⟨g, cap', cr, h1, hB, -⟩
      · omega
      · simp only [Value.slice.injEq] at h1
        obtain ⟨rfl, -, rfl⟩ := h1
        have hcl : k < (numCells cur).length := by simp [numCells]; omega
        have d0 : wr.cell? ⟨g, k, none⟩ = some ((numCells cur)[k]) := by rw [World.ownsRow.cellAt hown' k (by omega)]; exact List.getElem?_eq_getElem hcl
        have z0 := World.ownsRow.frozenAt hown' k
        have hst := World.ownsRow.stored hown' k (.int .i64 (q : Int))
        have hn : Hid (OwnN B (.slice (some ⟨g, 0, none⟩) P.length cap) (numsFrom k0 (k + 1) ++ P.drop (k + 1)) (wr.setCell ⟨g, k, none⟩ (.int .i64 (q : Int)))) := by
          rw [← hset.out]
          show World.ownsRow _ _ _ _ _ _ _
          rw [List.length_set, hlen, numCells, List.map_set]
          exact hst.1
        have hg2 : Hid (w.grownBy (wr.setCell ⟨g, k, none⟩ (.int .i64 (q : Int))) (Value.slice (some ⟨g, 0, none⟩) P.length cap).ownBlock) := grG_trans hg.out hst.2
        have hadd := add_off g k
        generalize (numCells cur)[k] = y0 at d0
        replace hB := mkHid hB
        replace hlen := mkHid hlen
        clear hown' hst hset hown hg hcl
        go_wp2
        go_roundw
        case rel => exact ⟨k + 1, q + 1, by omega, by go_num, by go_num, by show _ = _; have := hq.out; omega, hn, hg2⟩
        case measure => simp [Lib.intOf]; omega
    · have hkl : Hid (k = P.length) := Nat.le_antisymm hk (by omega)
      have hn : Hid (OwnN B (.slice o P.length cap) (numsFrom k0 P.length) wr) := by
        have := hown.out
        rw [hkl.out, List.drop_length, List.append_nil] at this
        exact this
      clear hown
      go_wp2
      go_ret
      exact ⟨by rw [hq.out, hkl.out]; rfl, hn, hg⟩
set_option maxRecDepth 20000 in
set_option maxHeartbeats 1000000 in
theorem lawHeldInts (o : Option Addr) (n cap lo k0 : Nat) (w : World) (hl : n ≤ 1048576) (hk0 : k0 ≤ 1000000000000) (h : InL lo w.heap.size w o (numsFrom k0 n)) :
    Calls Tryz.prog 8 #[.slice o n cap, .int .i64 k0] w fun e w' => e = .returned (.int .i64 ((k0 + n : Nat) : Int)) ∧ w = w' := by
  have H : Hid (∀ i, i < n → ∃ a, o = some a ∧ w.cell? (a.add i) = some (.int .i64 ((k0 + i : Nat) : Int))) := show ∀ i, _ from fun i hi => by
    obtain ⟨a, h1, -, -, h2⟩ := h i (by rw [nums_len]; exact hi)
    exact ⟨a, h1, by rw [h2, nums_get]⟩
  clear h
  go_enter Tryz.func8, Tryz.ntmps8
  go_wp2
  go_loopw [1, 5] (fun m i wr => ∃ k q : Nat, k ≤ n ∧ i = .int .i64 k ∧ m = .int .i64 (q : Int) ∧ Hid (q = k0 + k) ∧ wr = w) (fun _ i _ => n - (Lib.intOf i).toNat)
  case atStart => exact ⟨0, k0, Nat.zero_le _, rfl, rfl, rfl, rfl⟩
  case round =>
    obtain ⟨k, q, hk, rfl, rfl, hq, hWr⟩ := hrel
    have hWr' : wr = w := hWr
    clear hWr
    subst hWr'
    have hqb : q ≤ 2000000000000 := by have := hq.out; omega
    by_cases hlt : k < n
    · obtain ⟨a, rfl, c0⟩ := H.out k hlt
      rw [← hq.out] at c0
      have z1 : ((q : Int) != (q : Int)) = false := by simp
      go_wp2
      go_roundw
      case rel => exact ⟨k + 1, q + 1, by omega, by go_num, by go_num, by show _ = _; have := hq.out; omega, trivial⟩
      case measure => simp [Lib.intOf]; omega
    · have hkl : Hid (k = n) := Nat.le_antisymm hk (by omega)
      go_wp2
      go_ret
      exact ⟨by rw [hq.out, hkl.out]; rfl, rfl⟩
end Go.Proofs.YtgfgondjpfnmiaaGreatDoor
namespace Go.Proofs.YtgfgondjpfnmiaaGreatDoor
open Go.RowKit Go.Lib Go.Maps
set_option maxRecDepth 20000 in
/-- An append of one number. -/
theorem wp_appN {w : World} {ops : Array Oper} {rest : List Oper} {o : Oper} {a : Act} {Q : Exit → Act → World → Prop} (hgd : o.guard = none) (s x : Operand)
    (ho : o.op = .call { callee := .builtin .append, args := #[s, x], argTypes := #[22, 22] })
    (B : Nat) (v : Value) (C : List Int) (hs : a.eval s = v) (hown : OwnN B v C w) (u : Int)
    (c : Nat) (hx : a.eval x = .slice (some ⟨w.heap.size, 0, none⟩) 1 c) (hlen : C.length ≤ 1000000) (hB : B ≤ w.heap.size)
    (h : ∀ v' w', OwnN B v' (C ++ [u]) w' → (w.alloc (.cells #[.int .i64 u] 2)).grownBy w' v.ownBlock → wpList Tryz.prog ops Q rest (a.put o.dst v') w') : wpList Tryz.prog ops Q (o :: rest) a (w.alloc (.cells #[.int .i64 u] 2)) := by
  obtain ⟨i0, hi0, hz0, hz1, hz2⟩ := info_parts Tryz.info2
  unfold OwnN at hown
  refine wpList_append_own _ hgd s x 22 ho B 2 i0 (.int .i64 0) 1 8 Tryz.underlying22 hi0 hz0 hz1 hz2 rfl (by decide) v C.length (numCells C) hs (World.ownsRow.alloc hown _) ⟨w.heap.size, 0, none⟩ 1 c [.int .i64 u] hx
    rfl ?_ ?_ (by unfold maxLen; omega) (by omega) (by simp; omega) ?_
  · intro j y hj
    rw [add_off]
    match j, hj with
    | 0, hj => simp at hj; subst hj; simp
  · intro y hy
    simp at hy
    subst hy
    rfl
  · intro v' w' h1 h2 _
    refine h v' w' ?_ h2
    unfold OwnN numCells
    rw [List.map_append, List.length_append]
    exact h1
end Go.Proofs.YtgfgondjpfnmiaaGreatDoor
