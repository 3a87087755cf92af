
/- A point taken from bytes in utf-16: the program's side. -/

/- Lists of numbers (int64) that a call has made: appended to, marked, the marks asked for. -/

/- An append of one number, of one text. -/

/- Decode, the program's side: the loop over any set that takes points. -/

/- Decode, the program's side: every set. -/

/- An encoded word, plain: both sides take the same. -/

/- A header's text as characters: the specification's small tests. -/
import Derived.Test.YtajkahpkbeobaaaGreatDoorDcTake
import Derived.Test.YtajkahpkbeobaaaGreatDoorSubjFind
import Derived.Test.YtajkahpkbeobaaaGreatDoorWdPlain
import Derived.Test.YtajkahpkbeobaaaGreatDoorNinePlain
import Derived.Test.YtajkahpkbeobaaaGreatDoorU64Value
import Derived.Test.YtajkahpkbeobaaaGreatDoorReadPlain
namespace Go.Proofs.YtajkahpkbeobaaaGreatDoor
open Go.RowKit Go.Lib Go.Maps
set_option maxRecDepth 20000 in
theorem wrapD (x : Int) (h0 : -9223372036854775808 ≤ x) (h1 : x ≤ 9223372036854775807) : IntKind.i64.wrap x = x := by
  unfold IntKind.wrap
  simp [IntKind.bits, IntKind.signed]
  omega
set_option maxRecDepth 20000 in
theorem or64D (x y : Nat) (hx : x < 4294967296) (hy : y < 256) : bits .or .i64 ((x : Int) * 256) (y : Int) = ((x * 256 + y : Nat) : Int) := by
  have e : ∀ n : Nat, n < 1099511627776 → (BitVec.ofInt 64 (n : Int)).toNat = n := by
    intro n hn
    rw [BitVec.toNat_ofInt]
    omega
  have h3 : x * 256 ||| y = x * 256 + y := by
    have := Nat.two_pow_add_eq_or_of_lt (i := 8) (b := y) (by omega) x
    rw [Nat.mul_comm] at this
    exact this.symm
  show IntKind.i64.wrap ((BitVec.ofInt 64 ((x : Int) * 256) ||| BitVec.ofInt 64 (y : Int)).toNat : Int) = _
  rw [BitVec.toNat_or, show ((x : Int) * 256) = ((x * 256 : Nat) : Int) by omega, e _ (by omega), e _ (by omega), h3]
  exact wrapD _ (by omega) (by omega)
set_option maxRecDepth 20000 in
set_option maxHeartbeats 1000000 in
theorem implPairNo (s : ByteArray) (k : Nat) (hk : k ≤ 2) (h : s.size < k + 2) (w : World) : Calls Tryz.prog 199 #[.string s, .int .i64 k] w fun e w' => e = .returned (.tuple #[.int .i64 0, .bool false]) ∧ Below w.heap.size w w' := by
  have hsz : (s.size : Int) - (k : Int) < 2 := by omega
  go_enter Tryz.func199, Tryz.ntmps199
  go_wp2
  go_ret2
  exact ⟨rfl, Below.refl _ _⟩
set_option maxRecDepth 20000 in
set_option maxHeartbeats 1000000 in
theorem implPairYes0 (s : ByteArray) (h : 2 ≤ s.size) (hs : s.size ≤ 1100000) (w : World) : Calls Tryz.prog 199 #[.string s, .int .i64 0] w fun e w' => e = .returned (.tuple #[.int .i64 (Pd.two s[0] s[1]), .bool true]) ∧ Below w.heap.size w w' := by
  have h8 : s[0].toNat < 256 := UInt8.toNat_lt _
  have h9 : s[1].toNat < 256 := UInt8.toNat_lt _
  have hsz : ¬ (s.size : Int) - 0 < 2 := by omega
  have i0 : (0 : Int) < (s.size : Int) := by omega
  have i1 : (1 : Int) < (s.size : Int) := by omega
  have ho := or64D s[0].toNat s[1].toNat (by omega) h9
  unfold Pd.two
  generalize hx : s[0] = x at *
  generalize hy : s[1] = y at *
  have n0 : 0 < s.size := by omega
  have n1 : 1 < s.size := by omega
  have wc1 : IntKind.i64.wrap 1 = 1 := by decide
  have wc3 : IntKind.i64.wrap 3 = 3 := by decide
  have wx : IntKind.i64.wrap (x.toNat : Int) = (x.toNat : Int) := wrapD _ (by omega) (by omega)
  have wy : IntKind.i64.wrap (y.toNat : Int) = (y.toNat : Int) := wrapD _ (by omega) (by omega)
  have w1 : IntKind.i64.wrap ((x.toNat : Int) * 256) = (x.toNat : Int) * 256 := wrapD _ (by omega) (by omega)
  go_enter Tryz.func199, Tryz.ntmps199
  go_wp2
  refine wp_region_quiet_below (by kernel_rfl) (by kernel_rfl) ?_
  repeat (quiet_step (fail))
  refine wpQuiet_nil ?_
  intro _ hw'
  obtain ⟨⟨dq, osq⟩, hw''⟩ := hw'
  subst hw''
  have hbq := below_regrown w dq osq
  go_wp2
  go_ret2
  exact ⟨rfl, hbq⟩
set_option maxRecDepth 20000 in
set_option maxHeartbeats 1000000 in
theorem implPairYes2 (s : ByteArray) (h : 4 ≤ s.size) (hs : s.size ≤ 1100000) (w : World) : Calls Tryz.prog 199 #[.string s, .int .i64 2] w fun e w' => e = .returned (.tuple #[.int .i64 (Pd.two s[2] s[3]), .bool true]) ∧ Below w.heap.size w w' := by
  have h8 : s[2].toNat < 256 := UInt8.toNat_lt _
  have h9 : s[3].toNat < 256 := UInt8.toNat_lt _
  have hsz : ¬ (s.size : Int) - 2 < 2 := by omega
  have i0 : (2 : Int) < (s.size : Int) := by omega
  have i1 : (3 : Int) < (s.size : Int) := by omega
  have ho := or64D s[2].toNat s[3].toNat (by omega) h9
  unfold Pd.two
  generalize hx : s[2] = x at *
  generalize hy : s[3] = y at *
  have n0 : 0 < s.size := by omega
  have n1 : 1 < s.size := by omega
  have wc1 : IntKind.i64.wrap 1 = 1 := by decide
  have wc3 : IntKind.i64.wrap 3 = 3 := by decide
  have wx : IntKind.i64.wrap (x.toNat : Int) = (x.toNat : Int) := wrapD _ (by omega) (by omega)
  have wy : IntKind.i64.wrap (y.toNat : Int) = (y.toNat : Int) := wrapD _ (by omega) (by omega)
  have w1 : IntKind.i64.wrap ((x.toNat : Int) * 256) = (x.toNat : Int) * 256 := wrapD _ (by omega) (by omega)
  go_enter Tryz.func199, Tryz.ntmps199
  go_wp2
  refine wp_region_quiet_below (by kernel_rfl) (by kernel_rfl) ?_
  repeat (quiet_step (fail))
  refine wpQuiet_nil ?_
  intro _ hw'
  obtain ⟨⟨dq, osq⟩, hw''⟩ := hw'
  subst hw''
  have hbq := below_regrown w dq osq
  go_wp2
  go_ret2
  exact ⟨rfl, hbq⟩
set_option maxRecDepth 20000 in
theorem list2D (s : ByteArray) (h : 2 ≤ s.size) : ∃ r, s.data.toList = s[0] :: s[1] :: r ∧ r.length + 2 = s.size := by
  obtain ⟨⟨l⟩⟩ := s
  match l, h with
  | a :: b :: r, _ => exact ⟨r, rfl, rfl⟩
set_option maxRecDepth 20000 in
theorem list4D (s : ByteArray) (h : 4 ≤ s.size) : ∃ r, s.data.toList = s[0] :: s[1] :: s[2] :: s[3] :: r := by
  obtain ⟨⟨l⟩⟩ := s
  match l, h with
  | a :: b :: c :: d :: r, _ => exact ⟨r, rfl⟩
set_option maxRecDepth 20000 in
theorem take16_short : ∀ l : List UInt8, l.length < 2 → Pd.take16 l = none
  | [], _ => rfl
  | [_], _ => rfl
  | _ :: _ :: _, h => absurd h (by simp)
set_option maxRecDepth 20000 in
theorem take16_pt (a b : UInt8) (r : List UInt8) (h : Pl.isPt (Pd.two a b) = true) : Pd.take16 (a :: b :: r) = some (Pd.two a b, 2) := by
  unfold Pd.take16
  exact if_pos h
set_option maxRecDepth 20000 in
theorem take16_half (a b : UInt8) (h : Pl.isPt (Pd.two a b) = false) : ∀ r : List UInt8, r.length < 2 → Pd.take16 (a :: b :: r) = none
  | [], _ => by unfold Pd.take16; exact if_neg (by rw [h]; simp)
  | [_], _ => by unfold Pd.take16; exact if_neg (by rw [h]; simp)
  | _ :: _ :: _, hr => absurd hr (by simp)
set_option maxRecDepth 20000 in
theorem take16_four (a b c d : UInt8) (r : List UInt8) (h : Pl.isPt (Pd.two a b) = false) : Pd.take16 (a :: b :: c :: d :: r) = if Pd.two a b < 56320 ∧ 56320 ≤ Pd.two c d ∧ Pd.two c d ≤ 57343 then some (65536 + (Pd.two a b - 55296) * 1024 + (Pd.two c d - 56320), 4) else none := by
  unfold Pd.take16
  exact if_neg (by rw [h]; simp)
set_option maxRecDepth 20000 in
theorem two_lt (a b : UInt8) : 0 ≤ Pd.two a b ∧ Pd.two a b < 65536 := by
  have h8 : a.toNat < 256 := UInt8.toNat_lt _
  have h9 : b.toNat < 256 := UInt8.toNat_lt _
  unfold Pd.two
  omega
set_option maxRecDepth 20000 in
set_option maxHeartbeats 2000000 in
theorem implTake5 (s : ByteArray) (h0 : 0 < s.size) (hs : s.size ≤ 1100000) (w : World) : Calls Tryz.prog 197 #[.agg #[], .string s] w fun e w' => e = .returned (tkV (Pd.take 5 s.data.toList)) ∧ Below w.heap.size w w' := by
  have e5 : Pd.take 5 s.data.toList = Pd.take16 s.data.toList := by
    unfold Pd.take
    rw [if_neg (by decide), if_neg (by decide), if_neg (by decide), if_neg (by decide)]
  rw [e5]
  clear e5
  have hb : Below w.heap.size w (w.alloc (.cells #[] 104)) := (Below.refl _ _).alloc (Nat.le_refl _) _
  have Hb := mkHid hb
  by_cases h2 : 2 ≤ s.size
  · have c1 := mkHid (implPairYes0 s h2 hs (w.alloc (.cells #[] 104)))
    obtain ⟨r, hr, hrl⟩ := list2D s h2
    have ht := two_lt s[0] s[1]
    have hp := mkHid (fun V => implPoint (Pd.two s[0] s[1]) V)
    cases hpt : Pl.isPt (Pd.two s[0] s[1])
    · have hhi : 55296 ≤ Pd.two s[0] s[1] ∧ Pd.two s[0] s[1] ≤ 57343 := by
        unfold Pl.isPt at hpt
        simp only [Bool.and_eq_false_imp, decide_eq_true_eq, Bool.not_eq_false', Bool.and_eq_true] at hpt
        exact hpt ht.1 (by omega)
      by_cases h4 : 4 ≤ s.size
      · obtain ⟨r4, hr4⟩ := list4D s h4
        have hl := two_lt s[2] s[3]
        have e : Pd.take16 s.data.toList = if Pd.two s[0] s[1] < 56320 ∧ 56320 ≤ Pd.two s[2] s[3] ∧ Pd.two s[2] s[3] ≤ 57343 then some (65536 + (Pd.two s[0] s[1] - 55296) * 1024 + (Pd.two s[2] s[3] - 56320), 4) else none := by
          rw [hr4]
          exact take16_four _ _ _ _ _ hpt
        rw [e]
        have c2 := mkHid (fun V => implPairYes2 s h4 hs V)
        rw [hpt] at hp
        clear e hr hr4 hb hpt
        generalize Pd.two s[0] s[1] = x at *
        generalize Pd.two s[2] s[3] = y at *
        obtain ⟨q1, q2⟩ := hhi
        by_cases k1 : x < 56320
        · by_cases k2 : 56320 ≤ y
          · by_cases k3 : y ≤ 57343
            · rw [if_pos ⟨k1, k2, k3⟩]
              go_enter Tryz.func197, Tryz.ntmps197
              go_wp2_with fail
              refine c1.out.mono ?_
              rintro e w1 ⟨rfl, hb1⟩
              have Hb1 := mkHid (Hb.out.trans (hb1.mono Hb.out.size))
              clear c1 hb1 Hb
              go_wp2_with fail
              refine (hp.out _).mono ?_
              rintro e w2 ⟨rfl, rfl⟩
              go_wp2_with fail
              refine (c2.out _).mono ?_
              rintro e w3 ⟨rfl, hb3⟩
              have Hb3 := mkHid (Hb1.out.trans (hb3.mono Hb1.out.size))
              clear c2 hb3 Hb1
              go_wp2
              go_ret2
              exact ⟨rfl, Hb3.out⟩
            · rw [if_neg (fun h => k3 h.2.2)]
              go_enter Tryz.func197, Tryz.ntmps197
              go_wp2_with fail
              refine c1.out.mono ?_
              rintro e w1 ⟨rfl, hb1⟩
              have Hb1 := mkHid (Hb.out.trans (hb1.mono Hb.out.size))
              clear c1 hb1 Hb
              go_wp2_with fail
              refine (hp.out _).mono ?_
              rintro e w2 ⟨rfl, rfl⟩
              go_wp2_with fail
              refine (c2.out _).mono ?_
              rintro e w3 ⟨rfl, hb3⟩
              have Hb3 := mkHid (Hb1.out.trans (hb3.mono Hb1.out.size))
              clear c2 hb3 Hb1
              go_wp2
              go_ret2
              exact ⟨rfl, Hb3.out⟩
          · rw [if_neg (fun h => k2 h.2.1)]
            go_enter Tryz.func197, Tryz.ntmps197
            go_wp2_with fail
            refine c1.out.mono ?_
            rintro e w1 ⟨rfl, hb1⟩
            have Hb1 := mkHid (Hb.out.trans (hb1.mono Hb.out.size))
            clear c1 hb1 Hb
            go_wp2_with fail
            refine (hp.out _).mono ?_
            rintro e w2 ⟨rfl, rfl⟩
            go_wp2_with fail
            refine (c2.out _).mono ?_
            rintro e w3 ⟨rfl, hb3⟩
            have Hb3 := mkHid (Hb1.out.trans (hb3.mono Hb1.out.size))
            clear c2 hb3 Hb1
            go_wp2
            go_ret2
            exact ⟨rfl, Hb3.out⟩
        · rw [if_neg (fun h => k1 h.1)]
          go_enter Tryz.func197, Tryz.ntmps197
          go_wp2_with fail
          refine c1.out.mono ?_
          rintro e w1 ⟨rfl, hb1⟩
          have Hb1 := mkHid (Hb.out.trans (hb1.mono Hb.out.size))
          clear c1 hb1 Hb
          go_wp2_with fail
          refine (hp.out _).mono ?_
          rintro e w2 ⟨rfl, rfl⟩
          go_wp2_with fail
          refine (c2.out _).mono ?_
          rintro e w3 ⟨rfl, hb3⟩
          have Hb3 := mkHid (Hb1.out.trans (hb3.mono Hb1.out.size))
          clear c2 hb3 Hb1
          go_wp2
          go_ret2
          exact ⟨rfl, Hb3.out⟩
      · have e : Pd.take16 s.data.toList = none := by
          rw [hr]
          exact take16_half _ _ hpt r (by omega)
        rw [e]
        have c2 := mkHid (fun V => implPairNo s 2 (by omega) (by omega) V)
        rw [hpt] at hp
        clear e hr hb hpt
        generalize Pd.two s[0] s[1] = x at *
        go_enter Tryz.func197, Tryz.ntmps197
        go_wp2_with fail
        refine c1.out.mono ?_
        rintro e w1 ⟨rfl, hb1⟩
        have Hb1 := mkHid (Hb.out.trans (hb1.mono Hb.out.size))
        clear c1 hb1 Hb
        go_wp2_with fail
        refine (hp.out _).mono ?_
        rintro e w2 ⟨rfl, rfl⟩
        go_wp2_with fail
        refine (c2.out _).mono ?_
        rintro e w3 ⟨rfl, hb3⟩
        have Hb3 := mkHid (Hb1.out.trans (hb3.mono Hb1.out.size))
        clear c2 hb3 Hb1
        go_wp2
        go_ret2
        exact ⟨rfl, Hb3.out⟩
    · have e : Pd.take16 s.data.toList = some (Pd.two s[0] s[1], 2) := by
        rw [hr]
        exact take16_pt _ _ _ hpt
      rw [e]
      rw [hpt] at hp
      clear e hr hb hpt
      generalize Pd.two s[0] s[1] = x at *
      go_enter Tryz.func197, Tryz.ntmps197
      go_wp2_with fail
      refine c1.out.mono ?_
      rintro e w1 ⟨rfl, hb1⟩
      have Hb1 := mkHid (Hb.out.trans (hb1.mono Hb.out.size))
      clear c1 hb1 Hb
      go_wp2_with fail
      refine (hp.out _).mono ?_
      rintro e w2 ⟨rfl, rfl⟩
      go_wp2
      go_ret2
      exact ⟨rfl, Hb1.out⟩
  · have e : Pd.take16 s.data.toList = none := by
      have hl : s.data.toList.length = s.size := by simp
      exact take16_short _ (by omega)
    rw [e]
    have c1 := mkHid (implPairNo s 0 (by omega) (by omega) (w.alloc (.cells #[] 104)))
    clear e hb
    go_enter Tryz.func197, Tryz.ntmps197
    go_wp2_with fail
    refine c1.out.mono ?_
    rintro e w1 ⟨rfl, hb1⟩
    have Hb1 := mkHid (Hb.out.trans (hb1.mono Hb.out.size))
    clear c1 hb1 Hb
    go_wp2
    go_ret2
    exact ⟨rfl, Hb1.out⟩
end Go.Proofs.YtajkahpkbeobaaaGreatDoor
namespace Go.Proofs.YtajkahpkbeobaaaGreatDoor
open Go.RowKit Go.Lib Go.Maps
def numCells (P : List Int) : List Value := P.map (.int .i64)
/-- The slice v, whose array is among the blocks from B on, holds just the numbers P. -/
def OwnN (B : Nat) (v : Value) (P : List Int) (w : World) : Prop := w.ownsRow B 2 1 v P.length (numCells P)
set_option maxRecDepth 20000 in
theorem OwnN.nil (B : Nat) (w : World) : OwnN B (.slice none 0 0) [] w := World.ownsRow_nil w B 2 1
set_option maxRecDepth 20000 in
theorem OwnN.shape {B : Nat} {v : Value} {P : List Int} {w : World} (h : OwnN B v P w) : ∃ o cap, v = .slice o P.length cap := by
  rcases h.2 with ⟨rfl, h0⟩ | ⟨g, cap, cur, rfl, -⟩
  · exact ⟨none, 0, by rw [h0]⟩
  · exact ⟨_, cap, rfl⟩
set_option maxRecDepth 20000 in
theorem OwnN.inL {B : Nat} {o : Option Addr} {cap : Nat} {P : List Int} {w : World} (h : OwnN B (.slice o P.length cap) P w) : InL B w.heap.size w o P := by
  intro i hi
  have hl := World.ownsRow.lt h
  rcases h.2 with ⟨h1, h0⟩ | ⟨g, cap', cur, h1, hB, -⟩
  · omega
  · simp only [Value.slice.injEq] at h1
    obtain ⟨rfl, -⟩ := h1
    exact ⟨_, rfl, hB, (hl g rfl).2, World.ownsRow.cells h (g := g) rfl i _ (by simp [numCells, hi])⟩
set_option maxRecDepth 20000 in
theorem OwnN.keep {B : Nat} {v : Value} {P : List Int} {w w' : World} {row : Option Nat} (h : OwnN B v P w) (hg : w.grownBy w' row) (hne : v.ownBlock = none ∨ v.ownBlock ≠ row) : OwnN B v P w' := World.ownsRow.kept h hg hne
set_option maxRecDepth 20000 in
theorem OwnN.below {B : Nat} {v : Value} {P : List Int} {w w' : World} (h : OwnN B v P w) (hb : Below w.heap.size w w') : OwnN B v P w' := World.ownsRow.kept h (row := none) ⟨hb.os, hb.tape, hb.output, hb.size, fun k hk _ => hb.block k hk⟩ (by
  cases hv : v.ownBlock with
  | none => exact .inl rfl
  | some k => exact .inr (by simp))
/-- The numbers from k on. -/
def numsFrom (k n : Nat) : List Int := (List.range n).map fun j => ((k + j : Nat) : Int)
set_option maxRecDepth 20000 in
theorem nums_len (k n : Nat) : (numsFrom k n).length = n := by simp [numsFrom]
set_option maxRecDepth 20000 in
theorem nums_get (k n j : Nat) (h : j < (numsFrom k n).length) : (numsFrom k n)[j] = ((k + j : Nat) : Int) := by simp [numsFrom]
set_option maxRecDepth 20000 in
theorem nums_set (k : Nat) (P : List Int) (i : Nat) (h : i < P.length) : (numsFrom k i ++ P.drop i).set i ((k + i : Nat) : Int) = numsFrom k (i + 1) ++ P.drop (i + 1) := by
  rw [List.drop_eq_getElem_cons h]
  have e : numsFrom k (i + 1) = numsFrom k i ++ [((k + i : Nat) : Int)] := by simp [numsFrom, List.range_succ]
  rw [e, List.set_append, if_neg (by rw [nums_len]; omega), nums_len, Nat.sub_self, List.set_cons_zero, List.append_assoc]
  rfl
end Go.Proofs.YtajkahpkbeobaaaGreatDoor
namespace Go.Proofs.YtajkahpkbeobaaaGreatDoor
open Go.RowKit Go.Lib Go.Maps
set_option maxRecDepth 20000 in
/-- An append of one number. -/
theorem wp_appN {w : World} {ops : Array Oper} {rest : List Oper} {o : Oper} {a : Act} {Q : Exit → Act → World → Prop} (hgd : o.guard = none) (s x : Operand)
    (ho : o.op = .call { callee := .builtin .append, args := #[s, x], argTypes := #[33, 33] })
    (B : Nat) (v : Value) (C : List Int) (hs : a.eval s = v) (hown : OwnN B v C w) (u : Int)
    (c : Nat) (hx : a.eval x = .slice (some ⟨w.heap.size, 0, none⟩) 1 c) (hlen : C.length ≤ 1000000) (hB : B ≤ w.heap.size)
    (h : ∀ v' w', OwnN B v' (C ++ [u]) w' → (w.alloc (.cells #[.int .i64 u] 2)).grownBy w' v.ownBlock → wpList Tryz.prog ops Q rest (a.put o.dst v') w') : wpList Tryz.prog ops Q (o :: rest) a (w.alloc (.cells #[.int .i64 u] 2)) := by
  obtain ⟨i0, hi0, hz0, hz1, hz2⟩ := info_parts Tryz.info2
  unfold OwnN at hown
  refine wpList_append_own _ hgd s x 33 ho B 2 i0 (.int .i64 0) 1 8 Tryz.underlying33 hi0 hz0 hz1 hz2 rfl (by decide) v C.length (numCells C) hs (World.ownsRow.alloc hown _) ⟨w.heap.size, 0, none⟩ 1 c [.int .i64 u] hx
    rfl ?_ ?_ (by unfold maxLen; omega) (by omega) (by simp; omega) ?_
  · intro j y hj
    rw [add_off]
    match j, hj with
    | 0, hj => simp at hj; subst hj; simp
  · intro y hy
    simp at hy
    subst hy
    rfl
  · intro v' w' h1 h2 _
    refine h v' w' ?_ h2
    unfold OwnN numCells
    rw [List.map_append, List.length_append]
    exact h1
end Go.Proofs.YtajkahpkbeobaaaGreatDoor
namespace Go.Proofs.YtajkahpkbeobaaaGreatDoor
open Go.RowKit Go.Lib Go.Maps
/-- A set, as an interface value in the world W: it takes points. -/
structure Taker (set : Int) (T : TypeId) (rv : Value) (f : FuncId) (W : World) : Prop where
  ahead : ∀ w, (nilAhead 312 T rv "loop.example/g00013/impl.take").run Tryz.prog w = .ok (some false) w
  meth : ∀ w, (method 312 T rv "loop.example/g00013/impl.take").run Tryz.prog w = .ok (f, rv) w
  enters : ∀ (args : Array Value) (w : World), (callFunc f args).run Tryz.prog w = .ok (.enter f args) w
  take : ∀ (s : ByteArray) w, 0 < s.size → s.size ≤ 1100000 → Below W.heap.size W w → Calls Tryz.prog f #[rv, .string s] w fun e w' => e = .returned (tkV (Pd.take set s.data.toList)) ∧ Below w.heap.size w w'
/-- What Decode answers. -/
def DecOut (B : Nat) (x : Option (List Int)) (e : Ending) (w : World) : Prop := match x with
  | some ps => ∃ v, e = .returned (.agg #[.bool true, .int .i64 0, v]) ∧ OwnN B v ps w
  | none => ∃ i, e = .returned (.agg #[.bool false, .int .i64 i, .slice none 0 0])
set_option maxRecDepth 20000 in
theorem implTooLongD (s : ByteArray) (w : World) (hs : s.size ≤ 100000) : Calls Tryz.prog 35 #[.string s] w fun e w' => e = .returned (.bool false) ∧ w = w' := by
  have h : ¬ (100000 : Int) < (s.size : Int) := by omega
  go_enter Tryz.func35, Tryz.ntmps35
  go_wp2
  go_ret
  exact ⟨rfl, rfl⟩
set_option maxRecDepth 20000 in
theorem ext_drop (s : ByteArray) (k : Nat) : (s.extract k s.size).data.toList = s.data.toList.drop k := by
  simp [ByteArray.data_extract, Array.toList_extract, List.take_of_length_le]
set_option maxRecDepth 20000 in
theorem own_baseN {B B' : Nat} {v : Value} {P : List Int} {w : World} (h : OwnN B v P w) (hB : B' ≤ B) : OwnN B' v P w := by
  refine ⟨h.1, ?_⟩
  rcases h.2 with h0 | ⟨g, cap, cur, hv, hg, hr⟩
  · exact .inl h0
  · exact .inr ⟨g, cap, cur, hv, Nat.le_trans hB hg, hr⟩
set_option maxRecDepth 20000 in
theorem retD {w wr : World} {tmps : Array Value} {x : Option (List Int)} (cs : Array Value) (hp : tmps.getD 4 undef = .pointer (some ⟨w.heap.size, 0, none⟩)) {old : Array Value} (hres : wr.heap[w.heap.size]? = some (.cells old 52 (0, 0))) (hb : Below w.heap.size w wr) (h3 : cs.size = 3) (ho : DecOut w.heap.size x (.returned (.agg cs)) (wr.setRow w.heap.size cs)) :
    bodyPost Tryz.prog Tryz.f71 (fun e w' => DecOut w.heap.size x e w' ∧ Below w.heap.size w w') Exit.ret { tmps := tmps, defers := [] } (wr.setRow w.heap.size cs) := by
  refine bodyPost_ret (v := .agg cs) (results_cell_row Tryz.results71 _ _ w.heap.size 52 _ (0, 0) _ hp (setRow_heap _ _ _ _ _ _ hres) Tryz.underlying52 rfl ?_) rfl ⟨ho, hb.grown (grown_setRow _ _ _) hb.size (fun j hj => by cases hj; exact Nat.le_refl _)⟩
  rw [h3]
  kernel_rfl
set_option maxRecDepth 20000 in
set_option maxHeartbeats 4000000 in
theorem implDec (set : Int) (s : ByteArray) (w : World) (hs : s.size ≤ 100000)
    (hch : Calls Tryz.prog 40 #[.int .i64 set] (w.alloc (.cells #[.bool false, .int .i64 0, .slice none 0 0] 52)) fun e W => ∃ T rv f, e = .returned (.iface T rv) ∧ Below (w.alloc (.cells #[.bool false, .int .i64 0, .slice none 0 0] 52)).heap.size (w.alloc (.cells #[.bool false, .int .i64 0, .slice none 0 0] 52)) W ∧ Taker set T rv f W) :
    Calls Tryz.prog 71 #[.int .i64 set, .string s] w fun e w' => DecOut w.heap.size (Pd.dec set [] s.data.toList) e w' ∧ Below w.heap.size w w' := by
  have hc0 : decide ((100000 : Int) < (s.size : Int)) = false := by simp; omega
  have hch := mkHid hch
  have hN0 : (w.alloc (.cells #[.bool false, .int .i64 0, .slice none 0 0] 52)).heap[w.heap.size]? = some (.cells #[.bool false, .int .i64 0, .slice none 0 0] 52 (0, 0)) := heap_alloc_at _ _
  have hB0 : Below w.heap.size w (w.alloc (.cells #[.bool false, .int .i64 0, .slice none 0 0] 52)) := (Below.refl _ _).alloc (Nat.le_refl _) _
  have hz0 : (w.alloc (.cells #[.bool false, .int .i64 0, .slice none 0 0] 52)).heap.size = w.heap.size + 1 := World.size_alloc _ _
  have hTL := mkHid (fun W => implTooLongD s W hs)
  go_enter Tryz.func71, Tryz.ntmps71
  go_wp2_with fail
  refine hch.out.mono ?_
  rintro e W ⟨T, rv, f, rfl, hbW, hP⟩
  have HP := mkHid hP
  have hm := hP.meth
  have hah := hP.ahead
  have hE := hP.enters
  have HN : Hid (W.heap[w.heap.size]? = some (.cells #[.bool false, .int .i64 0, .slice none 0 0] 52 (0, 0))) := mkHid ((hbW.block _ (by omega)).trans hN0)
  have HB : Hid (Below w.heap.size w W) := mkHid (hB0.trans (hbW.mono (by omega)))
  have zW : w.heap.size + 1 ≤ W.heap.size := by have := hbW.size; omega
  clear hch hP hbW hB0 hN0 hz0
  go_wp2_with fail
  refine (hTL.out _).mono ?_
  rintro e W' ⟨rfl, rfl⟩
  clear hTL
  go_wp2
  go_loopw [6, 7] (fun v iv wr => ∃ (k : Nat) (p : List Int), k ≤ s.size ∧ iv = .int .i64 k ∧ p.length ≤ k ∧ Hid (Pd.dec set p (s.data.toList.drop k) = Pd.dec set [] s.data.toList) ∧ Hid (OwnN W.heap.size v p wr) ∧ Hid (Below W.heap.size W wr)) (fun _ iv _ => s.size - (Lib.intOf iv).toNat)
  case atStart => exact ⟨0, [], Nat.zero_le _, rfl, Nat.le_refl _, mkHid rfl, mkHid (OwnN.nil _ _), mkHid (Below.refl _ _)⟩
  case round =>
    obtain ⟨k, p, hk, rfl, hpl, Hd, HO, Hb⟩ := hrel
    have hll : s.data.toList.length = s.size := by simp
    have hres := (Hb.out.block w.heap.size (by omega)).trans HN.out
    have zr : W.heap.size ≤ wr.heap.size := Hb.out.size
    have hbw := mkHid (HB.out.trans (Hb.out.mono HB.out.size))
    obtain ⟨ob, cb, rfl⟩ := HO.out.shape
    by_cases hlt : k < s.size
    · have hes : (s.extract k s.size).size = s.size - k := by simp
      have hMe : Hid (∀ d os, Calls Tryz.prog f #[rv, .string (s.extract k s.size)] (Go.Sort.grow (redrawn wr d) os) fun e w'' => e = .returned (tkV (Pd.take set (s.data.toList.drop k))) ∧ ∃ p : Regrown, w'' = Go.Sort.grow (redrawn wr p.d) p.os) := mkHid (fun d os => by
        have := HP.out.take (s.extract k s.size) (Go.Sort.grow (redrawn wr d) os) (by omega) (by omega) (Hb.out.trans ((below_regrown wr d os).mono zr))
        rw [ext_drop] at this
        exact Calls.regrown_of this)
      have hkd : k < s.data.toList.length := by omega
      cases hx : Pd.take set (s.data.toList.drop k) with
      | none =>
        have Hbad := mkHid (Pd.dec_bad hkd hx Hd.out)
        rw [hx] at hMe
        unfold tkV at hMe
        clear hx
        go_wp2
        refine wp_region_quiet_below (by kernel_rfl) (by kernel_rfl) ?_
        iterate 7 (quiet_step (fail))
        quiet_step (first | exact hMe.out _ _ | exact ⟨trivial, hMe.out _ _⟩ | (trace_state; fail))
        repeat (quiet_step (fail))
        refine wpQuiet_nil ?_
        intro _ hw'
        obtain ⟨⟨dq, osq⟩, hw''⟩ := hw'
        subst hw''
        have hrq := ((below_regrown wr dq osq).block w.heap.size (by omega)).trans hres
        have hbq := mkHid (hbw.out.trans ((below_regrown wr dq osq).mono hbw.out.size))
        generalize Go.Sort.grow (redrawn wr dq) osq = wq at *
        clear hMe hm hE hah
        go_wp2_with (first | (refine wpL_store_row rfl 52 _ _ rfl w.heap.size #[.bool false, .int .i64 (k : Int), .slice none 0 0] rfl rfl 52 _ hrq (by kernel_rfl) rfl (by simp [Value.oneCell']) ?_) | go_in)
        rw [Hbad.out]
        exact retD _ rfl hrq hbq.out rfl ⟨_, rfl⟩
      | some qn =>
        obtain ⟨q, n⟩ := qn
        obtain ⟨hn1, hn2⟩ := Pd.take_room (by rw [List.drop_eq_getElem_cons hkd]; exact List.cons_ne_nil _ _) hx
        have Hst := mkHid (Pd.dec_step hkd hx Hd.out)
        have hn3 : k + n ≤ s.size := by rw [List.length_drop] at hn2; omega
        rw [hx] at hMe
        unfold tkV at hMe
        clear hx
        have hnz : ((n : Int) == 0) = false := by rw [beq_eq_false_iff_ne]; omega
        go_wp2
        refine wp_region_quiet_below (by kernel_rfl) (by kernel_rfl) ?_
        iterate 7 (quiet_step (fail))
        quiet_step (first | exact hMe.out _ _ | exact ⟨trivial, hMe.out _ _⟩ | (trace_state; fail))
        repeat (quiet_step (fail))
        refine wpQuiet_nil ?_
        intro _ hw'
        obtain ⟨⟨dq, osq⟩, hw''⟩ := hw'
        subst hw''
        have HOq := mkHid (HO.out.below (below_regrown wr dq osq))
        have Hbq := mkHid (Hb.out.trans ((below_regrown wr dq osq).mono zr))
        generalize Go.Sort.grow (redrawn wr dq) osq = wq at *
        have zq : W.heap.size ≤ wq.heap.size := Hbq.out.size
        clear hMe hm hE hah hres hbw HO Hb zr
        go_wp2_with (at_builtin; refine wp_appN rfl _ _ rfl W.heap.size (.slice ob p.length cb) p rfl HOq.out q _ rfl (by omega) zq ?_; intro v5 w5 hown5 hg5; refine Hid.out ?_)
        refine mkHid ?_
        have Hb5 := mkHid (Hbq.out.trans (show Below W.heap.size wq w5 from
          ⟨hg5.os, hg5.tape, hg5.output, Nat.le_trans (by simp) hg5.size, fun j hj => (hg5.block j (by simp; omega) (fun e => by have := (World.ownsRow.lt HOq.out j e.symm).1; omega)).trans (heap_alloc_old _ _ _ (by omega))⟩))
        clear hg5
        go_wp2
        go_roundw
        case rel => exact ⟨k + n, p ++ [q], hn3, by go_num, by simp; omega, Hst, mkHid hown5, Hb5⟩
        case measure => simp [Lib.intOf]; omega
    · have Hdn := mkHid (Pd.dec_done (by omega) Hd.out)
      go_wp2_with (first | (refine wpL_store_row rfl 52 _ _ rfl w.heap.size #[.bool true, .int .i64 0, .slice ob p.length cb] rfl rfl 52 _ hres (by kernel_rfl) rfl (by simp [Value.oneCell']) ?_) | go_in)
      rw [Hdn.out]
      refine retD _ rfl hres hbw.out rfl ⟨_, rfl, ?_⟩
      have hk2 := OwnN.keep HO.out (grown_setRow wr w.heap.size #[.bool true, .int .i64 0, .slice ob p.length cb]) (.inr (fun e => by have := (World.ownsRow.lt HO.out w.heap.size e).1; omega))
      exact own_baseN hk2 (by omega)
end Go.Proofs.YtajkahpkbeobaaaGreatDoor
namespace Go.Proofs.YtajkahpkbeobaaaGreatDoor
open Go.RowKit Go.Lib Go.Maps
set_option maxRecDepth 20000 in
theorem taker12 (set top : Int) (hs : set = 1 ∧ top = 127 ∨ set = 2 ∧ top = 255) (W : World) : Taker set 96 (.agg #[.int .i64 top]) 189 W where
  ahead := fun _ => by kernel_rfl
  meth := fun _ => by kernel_rfl
  enters := enters_of Tryz.func189 (by kernel_rfl) rfl
  take := fun s w h0 _ _ => implTake12 set top hs s h0 w
set_option maxRecDepth 20000 in
theorem taker3 (m1 m2 : Nat) (W : World) (hN : Nine W m1 m2) : Taker 3 100 (.agg #[.map (some m1), .map (some m2)]) 191 W where
  ahead := fun _ => by kernel_rfl
  meth := fun _ => by kernel_rfl
  enters := enters_of Tryz.func191 (by kernel_rfl) rfl
  take := fun s w h0 _ hb => implTake3 m1 m2 s h0 w (hN.below hb)
set_option maxRecDepth 20000 in
theorem taker4 (W : World) (hT : Lib.Utf8Tabs 2 3 W) : Taker 4 103 (.agg #[]) 193 W where
  ahead := fun _ => by kernel_rfl
  meth := fun _ => by kernel_rfl
  enters := enters_of Tryz.func193 (by kernel_rfl) rfl
  take := fun s w h0 _ hb => implTake4 s h0 w (tabsD_below hT hb)
set_option maxRecDepth 20000 in
theorem taker5 (W : World) : Taker 5 104 (.agg #[]) 197 W where
  ahead := fun _ => by kernel_rfl
  meth := fun _ => by kernel_rfl
  enters := enters_of Tryz.func197 (by kernel_rfl) rfl
  take := fun s w h0 h1 _ => implTake5 s h0 h1 w
/-- What both sides answer to a set and bytes. -/
def decA (set : Int) (l : List UInt8) : Option (List Int) := if set < 1 ∨ 5 < set then none else Pd.dec set [] l
set_option maxRecDepth 20000 in
set_option maxHeartbeats 1000000 in
theorem implDecode (set : Int) (s : ByteArray) (w : World) (hs : s.size ≤ 100000) (hT : Lib.Utf8Tabs 2 3 w) :
    Calls Tryz.prog 71 #[.int .i64 set, .string s] w fun e w' => DecOut w.heap.size (decA set s.data.toList) e w' ∧ Below w.heap.size w w' := by
  have hB0 : Below w.heap.size w (w.alloc (.cells #[.bool false, .int .i64 0, .slice none 0 0] 52)) := (Below.refl _ _).alloc (Nat.le_refl _) _
  unfold decA
  by_cases h : set < 1 ∨ 5 < set
  · rw [if_pos h]
    have hres0 : (w.alloc (.cells #[.bool false, .int .i64 0, .slice none 0 0] 52)).heap[w.heap.size]? = some (.cells #[.bool false, .int .i64 0, .slice none 0 0] 52 (0, 0)) := heap_alloc_at _ _
    have hc := mkHid (implChars0 set (w.alloc (.cells #[.bool false, .int .i64 0, .slice none 0 0] 52)) h)
    clear hT
    go_enter Tryz.func71, Tryz.ntmps71
    go_wp2_with fail
    refine hc.out.mono ?_
    rintro e w2 ⟨rfl, rfl⟩
    clear hc
    go_wp2_with (first | (refine wpL_store_row rfl 52 _ _ rfl w.heap.size #[.bool false, .int .i64 0, .slice none 0 0] rfl rfl 52 _ hres0 (by kernel_rfl) rfl (by simp [Value.oneCell']) ?_) | go_in)
    exact retD _ rfl hres0 hB0 rfl ⟨_, rfl⟩
  · rw [if_neg h]
    refine implDec set s w hs ?_
    have hset : set = 1 ∨ set = 2 ∨ set = 3 ∨ set = 4 ∨ set = 5 := by omega
    rcases hset with rfl | rfl | rfl | rfl | rfl
    · refine (implChars1 _).mono ?_
      rintro e W ⟨rfl, rfl⟩
      exact ⟨_, _, _, rfl, Below.refl _ _, taker12 1 127 (.inl ⟨rfl, rfl⟩) _⟩
    · refine (implChars2 _).mono ?_
      rintro e W ⟨rfl, rfl⟩
      exact ⟨_, _, _, rfl, Below.refl _ _, taker12 2 255 (.inr ⟨rfl, rfl⟩) _⟩
    · refine (implChars3 _).mono ?_
      rintro e W ⟨m1, m2, rfl, hN, -, -, hb⟩
      exact ⟨_, _, _, rfl, hb, taker3 m1 m2 _ hN⟩
    · refine (implChars4 _).mono ?_
      rintro e W ⟨rfl, rfl⟩
      exact ⟨_, _, _, rfl, Below.refl _ _, taker4 _ (tabsD_below hT hB0)⟩
    · refine (implChars5 _).mono ?_
      rintro e W ⟨rfl, rfl⟩
      exact ⟨_, _, _, rfl, Below.refl _ _, taker5 _⟩
end Go.Proofs.YtajkahpkbeobaaaGreatDoor
namespace Go.Proofs.YtajkahpkbeobaaaGreatDoor
open Go.Lib
namespace Pw
/-- The points of a word's three inner parts. -/
def three (a b c : List UInt8) : Option (List Int) := (data b c).bind (decA (setFrom 0 (lower a)))
/-- The program's way. -/
def word (l : List UInt8) : Option (List Int) :=
  if hasPrefix l [61, 63] = true ∧ hasSuffix (trimPrefix l [61, 63]) [63, 61] = true ∧ l.length ≤ 75 then
    (match Cu.cut 63 [] (trimSuffix (trimPrefix l [61, 63]) [63, 61]) with
      | [a, b, c] => three a b c
      | _ => none)
  else none
/-- The specification's way. -/
def wordS (l : List UInt8) : Option (List Int) :=
  if l.length ≤ 75 ∧ hasPrefix l [61, 63] = true ∧ hasSuffix l [63, 61] = true then
    (match Cu.cut 63 [] l with
      | [x, a, b, c, y] => if x = [61] ∧ y = [61] ∧ setFrom 0 (lower a) ≠ 0 then three a b c else none
      | _ => none)
  else none
set_option maxRecDepth 20000 in
theorem three_no (a b c : List UInt8) (h : setFrom 0 (lower a) = 0) : three a b c = none := by
  unfold three
  rw [h]
  cases data b c with
  | none => rfl
  | some x => rfl
set_option maxRecDepth 20000 in
theorem suf_of_inner (l : List UInt8) (h1 : hasPrefix l [61, 63] = true) (h2 : hasSuffix (trimPrefix l [61, 63]) [63, 61] = true) : hasSuffix l [63, 61] = true := by
  have e := word_shape l h1 h2
  unfold hasSuffix
  rw [List.isSuffixOf_iff_suffix]
  exact ⟨61 :: 63 :: trimSuffix (trimPrefix l [61, 63]) [63, 61], by rw [List.cons_append, List.cons_append]; exact e.symm⟩
set_option maxRecDepth 20000 in
theorem word_same (l : List UInt8) : wordS l = word l := by
  unfold wordS word
  by_cases h : hasPrefix l [61, 63] = true ∧ hasSuffix (trimPrefix l [61, 63]) [63, 61] = true ∧ l.length ≤ 75
  · obtain ⟨h1, h2, h3⟩ := h
    rw [if_pos ⟨h3, h1, suf_of_inner l h1 h2⟩, if_pos ⟨h1, h2, h3⟩]
    have e := word_shape l h1 h2
    have ec : Cu.cut 63 [] l = [61] :: (Cu.cut 63 [] (trimSuffix (trimPrefix l [61, 63]) [63, 61]) ++ [[61]]) := by
      conv => lhs; rw [e]
      exact word_parts _
    rw [ec]
    generalize Cu.cut 63 [] (trimSuffix (trimPrefix l [61, 63]) [63, 61]) = P
    match P with
    | [] => rfl
    | [_] => rfl
    | [_, _] => rfl
    | [a, b, c] =>
      show (if [61] = [61] ∧ [61] = [61] ∧ setFrom 0 (lower a) ≠ 0 then three a b c else none) = three a b c
      by_cases hz : setFrom 0 (lower a) = 0
      · rw [if_neg (fun h => h.2.2 hz), three_no a b c hz]
      · rw [if_pos ⟨rfl, rfl, hz⟩]
    | [_, _, _, _] => rfl
    | _ :: _ :: _ :: _ :: _ :: _ => rfl
  · by_cases hs : l.length ≤ 75 ∧ hasPrefix l [61, 63] = true ∧ hasSuffix l [63, 61] = true
    · rw [if_pos hs, if_neg h]
      have h3 : hasSuffix (trimPrefix l [61, 63]) [63, 61] = false := by
        cases hx : hasSuffix (trimPrefix l [61, 63]) [63, 61] with
        | false => rfl
        | true => exact absurd ⟨hs.2.1, hx, hs.1⟩ h
      have hn := word_short l hs.2.1 hs.2.2 h3
      generalize Cu.cut 63 [] l = P at hn
      match P, hn with
      | [], _ => rfl
      | [_], _ => rfl
      | [_, _], _ => rfl
      | [_, _, _], _ => rfl
      | [_, _, _, _], _ => rfl
      | [_, _, _, _, _], hn => exact absurd rfl hn
      | _ :: _ :: _ :: _ :: _ :: _ :: _, _ => rfl
    · rw [if_neg hs, if_neg h]
end Pw
end Go.Proofs.YtajkahpkbeobaaaGreatDoor
namespace Go.Proofs.YtajkahpkbeobaaaGreatDoor
open Go.RowKit Go.Lib
set_option maxRecDepth 20000 in
theorem pre_two (s : ByteArray) (a b : UInt8) (h : 2 ≤ s.size) : ((s.extract 0 2).toList == [a, b]) = hasPrefix s.data.toList [a, b] := by
  obtain ⟨⟨l⟩⟩ := s
  match l, h with
  | x :: y :: r, _ =>
    rw [ByteArray.toList_eq]
    have e : ((⟨⟨x :: y :: r⟩⟩ : ByteArray).extract 0 2).data.toList = [x, y] := by simp [ByteArray.data_extract]
    rw [e]
    show ([x, y] == [a, b]) = List.isPrefixOf [a, b] (x :: y :: r)
    simp only [List.isPrefixOf, Bool.and_true]
    rw [Bool.eq_iff_iff]
    simp only [beq_iff_eq, List.cons.injEq, Bool.and_eq_true, and_true]
    constructor
    · rintro ⟨rfl, rfl⟩; exact ⟨rfl, rfl⟩
    · rintro ⟨rfl, rfl⟩; exact ⟨rfl, rfl⟩
set_option maxRecDepth 20000 in
theorem pre_short (s : ByteArray) (a b : UInt8) (h : ¬ 2 ≤ s.size) : hasPrefix s.data.toList [a, b] = false := by
  obtain ⟨⟨l⟩⟩ := s
  match l, h with
  | [], _ => rfl
  | [x], _ => simp [hasPrefix, List.isPrefixOf]
  | x :: y :: r, h => exact absurd (show 2 ≤ (x :: y :: r).length by simp) h
set_option maxRecDepth 20000 in
theorem suf_two (s : ByteArray) (a b : UInt8) (h : 2 ≤ s.size) : ((s.extract (s.size - 2) s.size).toList == [a, b]) = hasSuffix s.data.toList [a, b] := by
  have hl : s.data.toList.length = s.size := by simp
  rw [ByteArray.toList_eq]
  have e : (s.extract (s.size - 2) s.size).data.toList = s.data.toList.drop (s.size - 2) := by simp [ByteArray.data_extract, Array.toList_extract, List.take_of_length_le]
  rw [e, Bool.eq_iff_iff, beq_iff_eq]
  show _ ↔ List.isSuffixOf [a, b] s.data.toList = true
  rw [List.isSuffixOf_iff_suffix]
  constructor
  · intro h1
    exact ⟨s.data.toList.take (s.size - 2), by rw [← h1]; exact List.take_append_drop _ _⟩
  · rintro ⟨t, ht⟩
    have hlt : t.length = s.size - 2 := by have := congrArg List.length ht; simp at this; omega
    rw [← ht, ← hlt, List.drop_left]
set_option maxRecDepth 20000 in
theorem suf_short (s : ByteArray) (a b : UInt8) (h : ¬ 2 ≤ s.size) : hasSuffix s.data.toList [a, b] = false := by
  have hl : s.data.toList.length = s.size := by simp
  rw [Bool.eq_false_iff]
  intro h1
  have h2 : [a, b] <:+ s.data.toList := List.isSuffixOf_iff_suffix.1 h1
  have := h2.length_le
  simp at this
  omega
set_option maxRecDepth 20000 in
set_option maxHeartbeats 1000000 in
theorem specBeginsW (s : ByteArray) (w : World) :
    Calls Tryz.prog 15 #[.string s, .string ⟨#[61, 63]⟩] w fun e w' => e = .returned (.bool (hasPrefix s.data.toList [61, 63])) ∧ w = w' := by
  by_cases h : 2 ≤ s.size
  · have h2 : decide ((2 : Int) ≤ (s.size : Int)) = true := by simp; omega
    have h3 : (2 : Int) ≤ (s.size : Int) := by omega
    rw [← pre_two s 61 63 h]
    go_enter Tryz.func15, Tryz.ntmps15
    go_wp2
    go_ret
    exact ⟨rfl, rfl⟩
  · have h2 : decide ((2 : Int) ≤ (s.size : Int)) = false := by simp; omega
    rw [pre_short s 61 63 h]
    go_enter Tryz.func15, Tryz.ntmps15
    go_wp2
    go_ret
    exact ⟨rfl, rfl⟩
set_option maxRecDepth 20000 in
set_option maxHeartbeats 1000000 in
theorem specEndsW (s : ByteArray) (w : World) (hs : s.size ≤ 1100000) :
    Calls Tryz.prog 14 #[.string s, .string ⟨#[63, 61]⟩] w fun e w' => e = .returned (.bool (hasSuffix s.data.toList [63, 61])) ∧ w = w' := by
  by_cases h : 2 ≤ s.size
  · have h2 : decide ((2 : Int) ≤ (s.size : Int)) = true := by simp; omega
    have hn : ((s.size : Int) - 2).toNat = s.size - 2 := by omega
    have h3 : (0 : Int) ≤ (s.size : Int) - 2 := by omega
    rw [← suf_two s 63 61 h]
    go_enter Tryz.func14, Tryz.ntmps14
    go_wp2
    go_ret
    exact ⟨rfl, rfl⟩
  · have h2 : decide ((2 : Int) ≤ (s.size : Int)) = false := by simp; omega
    rw [suf_short s 63 61 h]
    go_enter Tryz.func14, Tryz.ntmps14
    go_wp2
    go_ret
    exact ⟨rfl, rfl⟩
end Go.Proofs.YtajkahpkbeobaaaGreatDoor
