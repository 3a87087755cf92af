/- ShowString: both sides. -/
import Derived.Test.YtmkdgkelfpnmeaaDoorShowDec
import Derived.Test.YtmkdgkelfpnmeaaDoorAllOf
namespace Go.Proofs.YtmkdgkelfpnmeaaDoor
open Go.RowKit Go.Lib
namespace Pl
/-- A byte that may stand between quotes. -/
def qk (c : UInt8) : Bool := (decide (1 ≤ c.toNat) && decide (c.toNat ≤ 127)) && lb c
def showQ (l : List UInt8) : List UInt8 := 34 :: qs l ++ [34]
def showL (l : List UInt8) : List UInt8 := 123 :: decDigits l.length ++ 125 :: 13 :: 10 :: l
def show_ (l : List UInt8) : List UInt8 := if 100000 < l.length then [] else if l.length ≤ 1000 ∧ l.all qk = true then showQ l else showL l
end Pl
abbrev PTab (w : World) : Prop := Lib.TabIs Tryd.prog w "internal/strconv.uint64pow10" .u64 Lib.pow10Tab
theorem pGlob : Tryd.prog.globalNamed "internal/strconv.uint64pow10" = some 0 := by kernel_rfl
theorem ptab_on {w w' : World} (h : PTab w) (hb : Below w.heap.size w w') : PTab w' := by
  unfold PTab Lib.TabIs World.var? at h ⊢
  rw [pGlob] at h ⊢
  simp only [Option.bind_some] at h ⊢
  have hlt : 0 < w.heap.size := by
    rcases Nat.lt_or_ge 0 w.heap.size with h' | h'
    · exact h'
    · rw [Array.getElem?_eq_none h'] at h; cases h
  rw [hb.block _ hlt]
  exact h
theorem below_drewN (w : World) (k : Nat) (os : Array Obj) : Below w.heap.size w (Go.Sort.grow (w.drewN k) os) := by
  refine ⟨rfl, rfl, rfl, by first | (simp [Go.Sort.grow]; done) | (simp [Go.Sort.grow]; omega), fun i hi => ?_⟩
  show ((w.drewN k).heap ++ os)[i]? = _
  rw [Array.getElem?_append_left (by show i < w.heap.size; omega)]
  rfl
theorem implQuotable (c : UInt8) (w : World) : Calls Tryd.prog 10 #[.int .u8 (c.toNat : Int)] w fun e w' => e = .returned (.bool (Pl.qk c)) ∧ w = w' := by
  have h8 : c.toNat < 256 := UInt8.toNat_lt _
  have hL := implLineByte c w
  unfold Pl.qk
  by_cases h1 : 1 ≤ c.toNat
  · by_cases h2 : c.toNat ≤ 127
    · rw [decide_eq_true h1, decide_eq_true h2, Bool.true_and, Bool.true_and]
      generalize Pl.lb c = b at *
      go_enter Tryd.func10, Tryd.ntmps10
      go_wp2_with fail
      refine hL.mono ?_
      rintro e w2 ⟨rfl, rfl⟩
      go_wp2
      go_ret
      exact ⟨rfl, rfl⟩
    · rw [decide_eq_false h2, Bool.and_false, Bool.false_and]
      clear hL
      go_enter Tryd.func10, Tryd.ntmps10
      go_wp2
      go_ret
      exact ⟨rfl, rfl⟩
  · rw [decide_eq_false h1, Bool.false_and, Bool.false_and]
    clear hL
    go_enter Tryd.func10, Tryd.ntmps10
    go_wp2
    go_ret
    exact ⟨rfl, rfl⟩
theorem kindQuotable : Kind 10 Pl.qk := ⟨Go.Proofs.enters_of Tryd.func10 (by kernel_rfl) rfl, implQuotable⟩
theorem specShowLong (s : ByteArray) (w : World) (hs : s.size ≤ 1100000) (h : 100000 < s.size) :
    Calls Tryd.prog 4 #[.string s] w fun e w' => e = .returned (.string ByteArray.empty) ∧ Below w.heap.size w w' := by
  go_enter Tryd.func4, Tryd.ntmps4
  go_wp2
  go_ret
  exact ⟨rfl, Below.refl _ _⟩
theorem lit_join2 (x s : ByteArray) : (⟨#[123]⟩ : ByteArray) ++ x ++ ⟨#[125]⟩ ++ ⟨#[13, 10]⟩ ++ s = ⟨(123 :: x.data.toList ++ 125 :: 13 :: 10 :: s.data.toList).toArray⟩ := by
  apply ByteArray.ext
  simp
theorem lit_join (x s : ByteArray) : (⟨#[123]⟩ : ByteArray) ++ x ++ ⟨#[125, 13, 10]⟩ ++ s = ⟨(123 :: x.data.toList ++ 125 :: 13 :: 10 :: s.data.toList).toArray⟩ := by
  apply ByteArray.ext
  simp
theorem qk_zero (c : UInt8) (h : c.toNat < 1) : Pl.qk c = false := by
  unfold Pl.qk; rw [decide_eq_false (by omega), Bool.false_and, Bool.false_and]
theorem qk_high (c : UInt8) (h : 127 < c.toNat) : Pl.qk c = false := by
  unfold Pl.qk; rw [decide_eq_false (p := c.toNat ≤ 127) (by omega), Bool.and_false, Bool.false_and]
theorem qk_lb (c : UInt8) (h0 : 1 ≤ c.toNat) (h1 : c.toNat ≤ 127) : Pl.qk c = Pl.lb c := by
  unfold Pl.qk; rw [decide_eq_true h0, decide_eq_true h1, Bool.true_and, Bool.true_and]
theorem qk_step (l : List UInt8) (k : Nat) (hk : k < l.length) (T b : Bool) (hb : Pl.qk l[k] = b) (h : Hid ((true && (l.drop k).all Pl.qk) = T)) : Hid ((b && (l.drop (k + 1)).all Pl.qk) = T) := by
  have h := h.out
  rw [Bool.true_and, Pl.all_step Pl.qk l k hk, hb] at h
  exact h
set_option maxRecDepth 10000 in
set_option maxHeartbeats 2000000 in
theorem specShow (s : ByteArray) (w : World) (hs : s.size ≤ 100000) :
    Calls Tryd.prog 4 #[.string s] w fun e w' => e = .returned (.string ⟨(Pl.show_ s.data.toList).toArray⟩) ∧ Below w.heap.size w w' := by
  obtain ⟨T, hT⟩ : ∃ T, (decide ((s.size : Int) ≤ 1000) && s.data.toList.all Pl.qk) = T := ⟨_, rfl⟩
  obtain ⟨R, hR⟩ : ∃ R, Pl.show_ s.data.toList = R := ⟨_, rfl⟩
  have HR : Hid ((if T = true then Pl.showQ s.data.toList else Pl.showL s.data.toList) = R) := by
    show _ = _
    rw [← hR, Pl.show_, if_neg (c := 100000 < s.data.toList.length) (by rw [Pl.len_list]; omega), ← hT]
    by_cases h1 : s.size ≤ 1000
    · rw [decide_eq_true (by omega : (s.size : Int) ≤ 1000), Bool.true_and]
      by_cases h2 : s.data.toList.all Pl.qk = true
      · rw [if_pos h2, if_pos ⟨by rw [Pl.len_list]; exact h1, h2⟩]
      · rw [if_neg h2, if_neg (fun h => h2 h.2)]
    · rw [decide_eq_false (by omega), Bool.false_and, if_neg (by decide), if_neg (fun h => h1 (by rw [Pl.len_list] at h; exact h.1))]
  rw [hR]
  clear hR
  have HT : Hid ((decide ((s.size : Int) ≤ 1000) && (s.data.toList.drop 0).all Pl.qk) = T) := hT
  clear hT
  go_enter Tryd.func4, Tryd.ntmps4
  go_wp2
  go_loopw [3, 4] (fun v i wr => ∃ (k : Nat) (b : Bool), k ≤ s.size ∧ i = .int .i64 k ∧ v = .bool b ∧ Hid ((b && (s.data.toList.drop k).all Pl.qk) = T) ∧ wr = w) (fun _ i _ => s.size - (Lib.intOf i).toNat)
  case atStart => exact ⟨0, _, Nat.zero_le _, rfl, rfl, HT, rfl⟩
  case round =>
    clear HT
    obtain ⟨k, b, hk, rfl, rfl, hp, rfl⟩ := hrel
    cases b
    · obtain rfl : false = T := by simpa using hp.out
      have hR : Pl.showL s.data.toList = R := HR.out
      have HR2 : Hid (Pl.showL s.data.toList = R) := hR
      clear hR HR hp
      have hD := specDec s.size (by omega)
      have hz := dec_len s.size
      have hj := lit_join ⟨(decDigits s.size).toArray⟩ s
      have HJ := (show Hid _ from hj)
      have hzz : (⟨(decDigits s.size).toArray⟩ : ByteArray).size ≤ s.size + 1 := by
        show (decDigits s.size).toArray.size ≤ _
        rw [List.size_toArray]; exact hz
      clear hz hj
      have HL : Hid (Pl.showL s.data.toList = 123 :: (⟨(decDigits s.size).toArray⟩ : ByteArray).data.toList ++ 125 :: 13 :: 10 :: s.data.toList) := by
        show _ = _
        rw [Pl.showL, Pl.len_list]
      generalize (⟨(decDigits s.size).toArray⟩ : ByteArray) = db at *
      by_cases hlt : k < s.size
      · go_wp2_with fail
        refine (hD _).mono ?_
        rintro e w3 ⟨rfl, hb3⟩
        go_wp2
        go_ret
        exact ⟨by rw [← HR2.out, HL.out, ← HJ.out]; rfl, hb3⟩
      · go_wp2_with fail
        refine (hD _).mono ?_
        rintro e w3 ⟨rfl, hb3⟩
        go_wp2
        go_ret
        exact ⟨by rw [← HR2.out, HL.out, ← HJ.out]; rfl, hb3⟩
    · by_cases hlt : k < s.size
      · have hll : k < s.data.toList.length := by simpa using hlt
        have h8 : s[k].toNat < 256 := UInt8.toNat_lt _
        have hst := fun b hb => qk_step s.data.toList k hll T b hb hp
        rw [Pl.at_list s k hlt] at hst
        have Hst := (show Hid _ from hst)
        clear hst hp
        generalize hsk : s[k] = c at *
        by_cases h0 : c.toNat < 1
        · skip
          have hn := Hst.out _ (qk_zero _ h0)
          clear Hst
          go_wp2
          go_roundw
          case rel => exact ⟨k + 1, _, by omega, by go_num, rfl, hn, trivial⟩
          case measure => simp [Lib.intOf]; omega
        replace h0 : 1 ≤ c.toNat := by omega
        by_cases h1 : 127 < c.toNat
        · skip
          have hn := Hst.out _ (qk_high _ h1)
          clear Hst
          go_wp2
          go_roundw
          case rel => exact ⟨k + 1, _, by omega, by go_num, rfl, hn, trivial⟩
          case measure => simp [Lib.intOf]; omega
        have hq := qk_lb c (by omega) (by omega)
        have Hq := (show Hid _ from hq)
        clear hq
        cases h10 : ((c.toNat : Int) == 10)
        · have hm : ((c.toNat : Int) != 10) = true := by rw [bne, h10]; rfl
          cases h13 : ((c.toNat : Int) == 13)
          · have hm2 : ((c.toNat : Int) != 13) = true := by rw [bne, h13]; rfl
            have hn := Hst.out _ (Hq.out.trans (show Pl.lb c = true from by simp [Pl.lb, Pl.byte_ne _ 13 _ rfl h13, Pl.byte_ne _ 10 _ rfl h10]))
            clear Hst
            go_wp2
            go_roundw
            case rel => exact ⟨k + 1, _, by omega, by go_num, rfl, hn, trivial⟩
            case measure => simp [Lib.intOf]; omega
          · have hm2 : ((c.toNat : Int) != 13) = false := by rw [bne, h13]; rfl
            have hn := Hst.out _ (Hq.out.trans (show Pl.lb c = false from by rw [Pl.byte_eq _ 13 _ rfl h13]; rfl))
            clear Hst
            go_wp2
            go_roundw
            case rel => exact ⟨k + 1, _, by omega, by go_num, rfl, hn, trivial⟩
            case measure => simp [Lib.intOf]; omega
        · have hm : ((c.toNat : Int) != 10) = false := by rw [bne, h10]; rfl
          have hn := Hst.out _ (Hq.out.trans (show Pl.lb c = false from by rw [Pl.byte_eq _ 10 _ rfl h10]; rfl))
          clear Hst
          go_wp2
          go_roundw
          case rel => exact ⟨k + 1, _, by omega, by go_num, rfl, hn, trivial⟩
          case measure => simp [Lib.intOf]; omega
      · obtain rfl : true = T := by
          have := hp.out
          rwa [Pl.all_done Pl.qk _ k (by simp; omega)] at this
        have hR : Pl.showQ s.data.toList = R := HR.out
        have HR2 : Hid (Pl.showQ s.data.toList = R) := hR
        clear hR HR hp
        have hQ := fun w => specQuote s w (by omega)
        go_wp2_with fail
        refine (hQ _).mono ?_
        rintro e w3 ⟨rfl, hb3⟩
        go_wp2
        go_ret
        exact ⟨by rw [← HR2.out]; rfl, hb3⟩
set_option maxHeartbeats 1000000 in
theorem implShow (s : ByteArray) (w : World) (hs : s.size ≤ 100000) (hP : PTab w) :
    Calls Tryd.prog 5 #[.string s] w fun e w' => e = .returned (.string ⟨(Pl.show_ s.data.toList).toArray⟩) ∧ Below w.heap.size w w' := by
  have hlong := implTooLong s w (by omega)
  rw [decide_eq_false (by omega)] at hlong
  have hA := implAllOf kindQuotable s w (by omega)
  have HP := (show Hid (PTab w) from hP)
  clear hP
  rw [Pl.show_, if_neg (c := 100000 < s.data.toList.length) (by rw [Pl.len_list]; omega)]
  have hI : ∀ w : World, PTab w → Calls Tryd.prog 12 #[.int .i64 (s.size : Int)] w fun e w' => e = .returned (.string ⟨(decDigits s.size).toArray⟩) ∧ Below w.heap.size w w' := by
    intro w hP
    refine (Tryd.strconv_Itoa (s.size : Int) (by omega) (by omega) w hP).mono ?_
    rintro e w' ⟨rfl, k, os, rfl⟩
    refine ⟨by rw [itoa, if_neg (by omega), Int.toNat_natCast], ?_⟩
    exact below_drewN _ _ _
  have HI := (show Hid _ from hI)
  clear hI
  have hz := dec_len s.size
  have HJ := (show Hid _ from lit_join2 ⟨(decDigits s.size).toArray⟩ s)
  have hzz : (⟨(decDigits s.size).toArray⟩ : ByteArray).size ≤ s.size + 1 := by
    show (decDigits s.size).toArray.size ≤ _
    rw [List.size_toArray]; exact hz
  clear hz
  have HL : Hid (Pl.showL s.data.toList = 123 :: (⟨(decDigits s.size).toArray⟩ : ByteArray).data.toList ++ 125 :: 13 :: 10 :: s.data.toList) := by
    show _ = _
    rw [Pl.showL, Pl.len_list]
  generalize (⟨(decDigits s.size).toArray⟩ : ByteArray) = db at *
  by_cases h1 : s.size ≤ 1000
  · by_cases h2 : s.data.toList.all Pl.qk = true
    · rw [if_pos ⟨by rw [Pl.len_list]; exact h1, h2⟩]
      rw [h2] at hA
      have hQ := implQuotes s w (by omega)
      clear h2 HI HJ HL
      go_enter Tryd.func5, Tryd.ntmps5
      go_wp2_with fail
      refine hlong.mono ?_
      rintro e w1 ⟨rfl, rfl⟩
      go_wp2_with fail
      refine hA.mono ?_
      rintro e w1 ⟨rfl, rfl⟩
      go_wp2_with fail
      refine hQ.mono ?_
      rintro e w1 ⟨rfl, hb⟩
      go_wp2
      go_ret
      exact ⟨rfl, hb⟩
    · rw [if_neg (fun h => h2 h.2)]
      rw [Bool.not_eq_true] at h2
      rw [h2] at hA
      clear h2
      go_enter Tryd.func5, Tryd.ntmps5
      go_wp2_with fail
      refine hlong.mono ?_
      rintro e w1 ⟨rfl, rfl⟩
      go_wp2_with fail
      refine hA.mono ?_
      rintro e w1 ⟨rfl, rfl⟩
      go_wp2_with fail
      refine (HI.out _ HP.out).mono ?_
      rintro e w1 ⟨rfl, hb⟩
      go_wp2
      go_ret
      exact ⟨by rw [HL.out, ← HJ.out]; rfl, hb⟩
  · rw [if_neg (fun h => h1 (by rw [Pl.len_list] at h; exact h.1))]
    clear hA
    go_enter Tryd.func5, Tryd.ntmps5
    go_wp2_with fail
    refine hlong.mono ?_
    rintro e w1 ⟨rfl, rfl⟩
    go_wp2_with fail
    refine (HI.out _ HP.out).mono ?_
    rintro e w1 ⟨rfl, hb⟩
    go_wp2
    go_ret
    exact ⟨by rw [HL.out, ← HJ.out]; rfl, hb⟩
theorem implShowLong (s : ByteArray) (w : World) (hs : s.size ≤ 1100000) (h : 100000 < s.size) :
    Calls Tryd.prog 5 #[.string s] w fun e w' => e = .returned (.string ByteArray.empty) ∧ Below w.heap.size w w' := by
  have hlong := implTooLong s w (by omega)
  rw [decide_eq_true (by omega)] at hlong
  go_enter Tryd.func5, Tryd.ntmps5
  go_wp2_with fail
  refine hlong.mono ?_
  rintro e w1 ⟨rfl, rfl⟩
  go_wp2
  go_ret
  exact ⟨rfl, Below.refl _ _⟩
end Go.Proofs.YtmkdgkelfpnmeaaDoor
