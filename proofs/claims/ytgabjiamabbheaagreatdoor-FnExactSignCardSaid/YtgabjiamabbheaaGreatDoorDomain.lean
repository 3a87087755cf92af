
/- Plain mathematics of domains and boxes: lists of bytes alone; no program. -/

/- The walks of the two DomainFault. -/
import Derived.Test.YtgabjiamabbheaaGreatDoorPhraseQuote
import Derived.Test.YtgabjiamabbheaaGreatDoorPhraseImpl
namespace Go.Proofs.YtgabjiamabbheaaGreatDoor
open Go.Lib
namespace Pl
/-- A byte of a literal. -/
def litB (c : UInt8) : Bool := decide (32 ≤ c.toNat) && (decide (c.toNat ≤ 126) && (!(c == 91) && (!(c == 93) && !(c == 92))))
/-- What stands between the first byte and the last. -/
def mid (l : List UInt8) : List UInt8 := (l.take (l.length - 1)).drop 1
def isLit (l : List UInt8) : Bool := hasPrefix l [91] && (hasSuffix (trimPrefix l [91]) [93] && (trimSuffix (trimPrefix l [91]) [93]).all litB)
def domI (l : List UInt8) : Bool := decide (l.length ≤ 255) && (scan 46 false l || isLit l)
set_option maxRecDepth 20000 in
theorem atom_open : atom 91 = false := by decide +kernel
set_option maxRecDepth 20000 in
theorem scan_open (r : List UInt8) : scan 46 false (91 :: r) = false := by
  rw [scan, if_neg (by rw [atom_open]; simp), if_neg (by decide)]
set_option maxRecDepth 20000 in
/-- A text that opens with no bracket. -/
theorem dom_atoms (l : List UInt8) (c : UInt8) (r : List UInt8) (e : l = c :: r) (h : c ≠ 91) (hn : l.length ≤ 255) : domI l = scan 46 false l := by
  have hp : hasPrefix l [91] = false := by rw [e, hasPrefix]; simp [List.isPrefixOf, Ne.symm h]
  rw [domI, isLit, hp, decide_eq_true hn]
  simp
set_option maxRecDepth 20000 in
theorem suf (r : List UInt8) (d : UInt8) (h : 1 ≤ r.length) : hasSuffix r [d] = (r[r.length - 1] == d) := by
  obtain ⟨x, y, rfl⟩ : ∃ x y, r = x ++ [y] := ⟨r.dropLast, r.getLast (by intro e; rw [e] at h; simp at h), (List.dropLast_concat_getLast _).symm⟩
  rw [hasSuffix]
  simp [List.isSuffixOf, List.isPrefixOf]
  by_cases e : d = y
  · subst e; simp
  · have : (d == y) = false := by simpa using e
    have : (y == d) = false := by simpa using Ne.symm e
    simp [*]
set_option maxRecDepth 20000 in
theorem dom_lit (l : List UInt8) (r : List UInt8) (e : l = 91 :: r) (hn : l.length ≤ 255) : domI l = isLit l := by
  rw [domI, decide_eq_true hn, e, scan_open]
  simp
set_option maxRecDepth 20000 in
theorem lit_short (l : List UInt8) (r : List UInt8) (e : l = 91 :: r) (h : l.length < 2) : isLit l = false := by
  have : r = [] := by rw [e] at h; simp at h; exact List.length_eq_zero_iff.1 (by omega)
  rw [e, this]; rfl
set_option maxRecDepth 20000 in
theorem lit_open (l : List UInt8) (r : List UInt8) (e : l = 91 :: r) (h : 2 ≤ l.length) (hl : l[l.length - 1] ≠ 93) : isLit l = false := by
  subst e
  have h1 : 1 ≤ r.length := by simpa using h
  have hp : hasPrefix (91 :: r) [91] = true := by simp [hasPrefix, List.isPrefixOf]
  have hg : (91 :: r)[(91 :: r).length - 1]'(by simp) = r[r.length - 1] := by
    have : (91 :: r).length - 1 = (r.length - 1) + 1 := by simp; omega
    simp only [this, List.getElem_cons_succ]
  rw [hg] at hl
  rw [isLit, trimPrefix, hp, if_pos rfl]
  simp only [List.length_cons, List.length_nil, List.drop_succ_cons, List.drop_zero]
  rw [suf r 93 h1]
  have : (r[r.length - 1] == 93) = false := by simpa using hl
  rw [this]
  simp
set_option maxRecDepth 20000 in
theorem lit_mid (l : List UInt8) (r : List UInt8) (e : l = 91 :: r) (h : 2 ≤ l.length) (hl : l[l.length - 1] = 93) : isLit l = (mid l).all litB := by
  subst e
  have h1 : 1 ≤ r.length := by simpa using h
  have hp : hasPrefix (91 :: r) [91] = true := by simp [hasPrefix, List.isPrefixOf]
  have hg : (91 :: r)[(91 :: r).length - 1]'(by simp) = r[r.length - 1] := by
    have : (91 :: r).length - 1 = (r.length - 1) + 1 := by simp; omega
    simp only [this, List.getElem_cons_succ]
  rw [hg] at hl
  have hs : hasSuffix r [93] = true := by rw [suf r 93 h1, hl]; rfl
  have e1 : trimPrefix (91 :: r) [91] = r := by rw [trimPrefix, hp, if_pos rfl]; rfl
  rw [isLit, hp, e1, hs, trimSuffix, hs, if_pos rfl, mid]
  have : (91 :: r).length - 1 = (r.length - 1) + 1 := by simp; omega
  rw [this]
  simp
set_option maxRecDepth 20000 in
theorem mid_step (l : List UInt8) (k : Nat) (hk : k < l.length - 1) : (((l.take (l.length - 1)).drop k).all litB) = (litB (l[k]'(by omega)) && ((l.take (l.length - 1)).drop (k + 1)).all litB) := by
  rw [List.drop_eq_getElem_cons (by simp; omega), List.all_cons]
  simp
set_option maxRecDepth 20000 in
theorem mid_done (l : List UInt8) (k : Nat) (hk : l.length - 1 ≤ k) : (((l.take (l.length - 1)).drop k).all litB) = true := by
  rw [List.drop_eq_nil_of_le (by simp; omega)]
  rfl
end Pl
end Go.Proofs.YtgabjiamabbheaaGreatDoor
namespace Go.Proofs.YtgabjiamabbheaaGreatDoor
open Go.RowKit Go.Lib
set_option maxRecDepth 20000 in
theorem litB_cases (c : UInt8) : (c.toNat < 32 ∧ Pl.litB c = false) ∨ (32 ≤ c.toNat ∧ 126 < c.toNat ∧ Pl.litB c = false) ∨ (32 ≤ c.toNat ∧ c.toNat ≤ 126 ∧ ((c.toNat : Int) == 91) = true ∧ Pl.litB c = false) ∨
    (32 ≤ c.toNat ∧ c.toNat ≤ 126 ∧ ((c.toNat : Int) == 91) = false ∧ ((c.toNat : Int) == 93) = true ∧ Pl.litB c = false) ∨ (32 ≤ c.toNat ∧ c.toNat ≤ 126 ∧ ((c.toNat : Int) == 91) = false ∧ ((c.toNat : Int) == 93) = false ∧ ((c.toNat : Int) == 92) = true ∧ Pl.litB c = false) ∨
    (32 ≤ c.toNat ∧ c.toNat ≤ 126 ∧ ((c.toNat : Int) == 91) = false ∧ ((c.toNat : Int) == 93) = false ∧ ((c.toNat : Int) == 92) = false ∧ Pl.litB c = true) := by
  by_cases h1 : c.toNat < 32
  · exact .inl ⟨h1, by simp [Pl.litB]; omega⟩
  by_cases h2 : 126 < c.toNat
  · exact .inr (.inl ⟨by omega, h2, by simp [Pl.litB]; omega⟩)
  cases h3 : ((c.toNat : Int) == 91)
  · have n3 := Pl.byte_ne c 91 _ rfl h3
    cases h4 : ((c.toNat : Int) == 93)
    · have n4 := Pl.byte_ne c 93 _ rfl h4
      cases h5 : ((c.toNat : Int) == 92)
      · have n5 := Pl.byte_ne c 92 _ rfl h5
        exact .inr (.inr (.inr (.inr (.inr ⟨by omega, by omega, rfl, rfl, rfl, by simp [Pl.litB, n3, n4, n5]; omega⟩))))
      · exact .inr (.inr (.inr (.inr (.inl ⟨by omega, by omega, rfl, rfl, rfl, by rw [Pl.byte_eq c 92 _ rfl h5]; decide⟩))))
    · exact .inr (.inr (.inr (.inl ⟨by omega, by omega, rfl, rfl, by rw [Pl.byte_eq c 93 _ rfl h4]; decide⟩)))
  · exact .inr (.inr (.inl ⟨by omega, by omega, rfl, by rw [Pl.byte_eq c 91 _ rfl h3]; decide⟩))
set_option maxRecDepth 20000 in
theorem implLitByte (c : UInt8) (w : World) : Calls Tryz.prog 152 #[.int .u8 (c.toNat : Int)] w fun e w' => e = .returned (.bool (Pl.litB c)) ∧ w = w' := by
  have h8 : c.toNat < 256 := UInt8.toNat_lt _
  rcases litB_cases c with ⟨h, hb⟩ | ⟨h, h1, hb⟩ | ⟨h, h1, h2, hb⟩ | ⟨h, h1, h2, h3, hb⟩ | ⟨h, h1, h2, h3, h4, hb⟩ | ⟨h, h1, h2, h3, h4, hb⟩ <;> rw [hb] <;> clear hb
  all_goals
    try have g2 : ((c.toNat : Int) != 91) = !((c.toNat : Int) == 91) := rfl
    try have g3 : ((c.toNat : Int) != 93) = !((c.toNat : Int) == 93) := rfl
    try have g4 : ((c.toNat : Int) != 92) = !((c.toNat : Int) == 92) := rfl
    try rw [h2] at g2
    try rw [h3] at g3
    try rw [h4] at g4
    try rw [Bool.not_true] at g2
    try rw [Bool.not_false] at g2
    try rw [Bool.not_true] at g3
    try rw [Bool.not_false] at g3
    try rw [Bool.not_true] at g4
    try rw [Bool.not_false] at g4
    go_enter Tryz.func152, Tryz.ntmps152
    go_wp2
    go_ret
    first | exact ⟨rfl, rfl⟩ | exact ⟨congrArg (fun b => Ending.returned (.bool b)) (by simp; omega), rfl⟩ | exact ⟨congrArg (fun b => Ending.returned (.bool b)) (by first | exact g2 | exact g3 | exact g4), rfl⟩
set_option maxRecDepth 20000 in
theorem kindLit : Kind 152 Pl.litB := ⟨Go.Proofs.enters_of Tryz.func152 (by kernel_rfl) rfl, implLitByte⟩
set_option maxRecDepth 20000 in
theorem trimP_len (l p : List UInt8) : (trimPrefix l p).length ≤ l.length := by
  unfold trimPrefix
  split
  · simp
  · exact Nat.le_refl _
set_option maxRecDepth 20000 in
theorem trimS_len (l p : List UInt8) : (trimSuffix l p).length ≤ l.length := by
  unfold trimSuffix
  split
  · simp
  · exact Nat.le_refl _
set_option maxRecDepth 20000 in
set_option maxHeartbeats 400000 in
theorem implIsLit (s : ByteArray) (w : World) (hs : s.size ≤ 100000) :
    Calls Tryz.prog 133 #[.string s] w fun e w' => e = .returned (.bool (Pl.isLit s.data.toList)) ∧ w' = w := by
  have hp := Tryz.strings_CutPrefix s ⟨#[91]⟩ w
  have hl1 : (trimPrefix s.data.toList [91]).length ≤ 100000 := Nat.le_trans (trimP_len _ _) (by simpa using hs)
  have hl2 : (trimSuffix (trimPrefix s.data.toList [91]) [93]).length ≤ 100000 := Nat.le_trans (trimS_len _ _) hl1
  have hq := Tryz.strings_CutSuffix ⟨(trimPrefix s.data.toList [91]).toArray⟩ ⟨#[93]⟩ w (by show (trimPrefix s.data.toList [91]).toArray.size ≤ _; simp; omega)
  have ha := implAllOf kindLit ⟨(trimSuffix (trimPrefix s.data.toList [91]) [93]).toArray⟩ w (by show (trimSuffix (trimPrefix s.data.toList [91]) [93]).toArray.size ≤ _; simp; omega)
  unfold Pl.isLit
  simp only at hp
  simp only at hq
  simp only at ha
  clear hl1 hl2
  generalize trimSuffix (trimPrefix s.data.toList [91]) [93] = q at *
  generalize trimPrefix s.data.toList [91] = p at *
  generalize hasPrefix s.data.toList [91] = b1 at *
  generalize hasSuffix p [93] = b2 at *
  generalize q.all Pl.litB = b3 at *
  cases b1 <;> cases b2
  all_goals
    go_enter Tryz.func133, Tryz.ntmps133
    go_wp2_with first | (go_at_call 150; go_must (refine hp.mono ?_; rintro e w2 ⟨rfl, rfl⟩)) | (go_at_call 151; go_must (refine hq.mono ?_; rintro e w2 ⟨rfl, rfl⟩)) | (go_at_call 109; go_must (refine ha.mono ?_; rintro e w2 ⟨rfl, rfl⟩))
    go_ret
    exact ⟨rfl, rfl⟩
def dcode (b : Bool) : Int := if b then 0 else 1
set_option maxRecDepth 20000 in
set_option maxHeartbeats 400000 in
theorem implDomain (s : ByteArray) (m : Int) (w : World) (hs : s.size ≤ 1100000) (hm : w.cell? ⟨0, 0, none⟩ = some (.int .i64 m)) :
    Calls Tryz.prog 108 #[.string s] w fun e w' => e = .returned (.int .i64 (dcode (Pl.domI s.data.toList))) ∧ Below w.heap.size w w' := by
  have hll : s.data.toList.length = s.size := by simp
  by_cases hn : s.size ≤ 255
  · have ha := implAreAtoms 46 Pl.atom_point s m w (by omega) hm
    have hb := fun w => implIsLit s w (by omega)
    rw [Pl.domI, decide_eq_true (by omega), Bool.true_and]
    generalize Pl.scan 46 false s.data.toList = b1 at ha ⊢
    generalize Pl.isLit s.data.toList = b2 at hb ⊢
    clear hm
    cases b1 <;> cases b2
    all_goals
      go_enter Tryz.func108, Tryz.ntmps108
      go_wp2_with first | (go_at_call 132; go_must (refine ha.mono ?_; rintro e w2 ⟨rfl, hb2⟩)) | (go_at_call 133; go_must (refine (hb _).mono ?_; rintro e w3 ⟨rfl, rfl⟩))
      go_ret
      exact ⟨rfl, hb2⟩
  · rw [Pl.domI, decide_eq_false (by omega), Bool.false_and]
    clear hm
    go_enter Tryz.func108, Tryz.ntmps108
    go_wp2
    go_ret
    exact ⟨rfl, Below.refl _ _⟩
set_option maxRecDepth 20000 in
set_option maxHeartbeats 1000000 in
theorem specDomain (s : ByteArray) (w : World) (hs : s.size ≤ 1100000) :
    Calls Tryz.prog 70 #[.string s] w fun e w' => e = .returned (.int .i64 (dcode (Pl.domI s.data.toList))) ∧ Below w.heap.size w w' := by
  have hll : s.data.toList.length = s.size := by simp
  by_cases h0 : s.size < 1
  · rw [show Pl.domI s.data.toList = false from by
      have : s.data.toList = [] := List.length_eq_zero_iff.1 (by omega)
      rw [this]; rfl]
    go_enter Tryz.func70, Tryz.ntmps70
    go_wp2
    go_ret
    exact ⟨rfl, Below.refl _ _⟩
  by_cases hn : 255 < s.size
  · rw [Pl.domI, decide_eq_false (by omega), Bool.false_and]
    go_enter Tryz.func70, Tryz.ntmps70
    go_wp2
    go_ret
    exact ⟨rfl, Below.refl _ _⟩
  have h0' : 0 < s.size := Nat.lt_of_not_le (fun h => h0 (Nat.lt_of_le_of_lt h Nat.one_pos))
  have hcons : s.data.toList = s[0]'h0' :: s.data.toList.drop 1 := by
    have := Pl.drop_cons s.data.toList 0 (by omega)
    rw [List.drop_zero] at this
    exact this
  have h8 : (s[0]'h0').toNat < 256 := UInt8.toNat_lt _
  cases h91 : ((((s[0]'h0').toNat : Nat) : Int) == 91)
  · have hne : ((((s[0]'h0').toNat : Nat) : Int) != 91) = true := by rw [bne, h91]; rfl
    have ha := specAtoms 46 46 rfl s w hs
    rw [Pl.dom_atoms _ _ _ hcons (Pl.byte_ne _ 91 _ rfl h91) (by omega)]
    generalize Pl.scan 46 false s.data.toList = b1 at ha ⊢
    clear hcons hll
    cases b1
    all_goals
      go_enter Tryz.func70, Tryz.ntmps70
      go_wp2_with (go_at_call 98; go_must (refine ha.mono ?_; rintro e w2 ⟨rfl, hb2⟩))
      go_ret
      exact ⟨rfl, hb2⟩
  · have hne : ((((s[0]'h0').toNat : Nat) : Int) != 91) = false := by rw [bne, h91]; rfl
    have hc : s.data.toList = 91 :: s.data.toList.drop 1 := by
      rw [← Pl.byte_eq _ 91 _ rfl h91]; exact hcons
    rw [Pl.dom_lit _ _ hc (by omega)]
    by_cases h2 : s.size < 2
    · rw [Pl.lit_short _ _ hc (by omega)]
      clear hcons hc hll
      go_enter Tryz.func70, Tryz.ntmps70
      go_wp2
      go_ret
      exact ⟨rfl, Below.refl _ _⟩
    have hl' : s.size - 1 < s.size := Nat.sub_lt h0' Nat.one_pos
    have hidx : ((s.size : Int) - 1).toNat = s.size - 1 := by omega
    have h8' : (s[s.size - 1]'hl').toNat < 256 := UInt8.toNat_lt _
    have hlast : s.data.toList[s.data.toList.length - 1]'(by omega) = s[s.size - 1]'hl' := by simp; rfl
    cases h93 : ((((s[s.size - 1]'hl').toNat : Nat) : Int) == 93)
    · rw [Pl.lit_open _ _ hc (by omega) (by rw [hlast]; exact Pl.byte_ne _ 93 _ rfl h93)]
      have hn3 : ((((s[s.size - 1]'hl').toNat : Nat) : Int) != 93) = true := by rw [bne, h93]; rfl
      clear hcons hc hll hlast
      go_enter Tryz.func70, Tryz.ntmps70
      go_wp2
      go_ret
      exact ⟨rfl, Below.refl _ _⟩
    · rw [Pl.lit_mid _ _ hc (by omega) (by rw [hlast]; exact Pl.byte_eq _ 93 _ rfl h93), Pl.mid]
      have hn3 : ((((s[s.size - 1]'hl').toNat : Nat) : Int) != 93) = false := by rw [bne, h93]; rfl
      obtain ⟨A, hA⟩ : ∃ A, ((s.data.toList.take (s.data.toList.length - 1)).drop 1).all Pl.litB = A := ⟨_, rfl⟩
      rw [hA]
      have HA : Hid (((s.data.toList.take (s.data.toList.length - 1)).drop 1).all Pl.litB = A) := hA
      clear hcons hc hll hlast hA
      go_enter Tryz.func70, Tryz.ntmps70
      go_wp2
      clear hn3 h93 h91 hne h8 h8'
      go_loopw [3] (fun i wr => ∃ k : Nat, 1 ≤ k ∧ k ≤ s.size - 1 ∧ i = .int .i64 k ∧ Hid (((s.data.toList.take (s.data.toList.length - 1)).drop k).all Pl.litB = A) ∧ wr = w) (fun i _ => s.size - (Lib.intOf i).toNat)
      case atStart => exact ⟨1, Nat.le_refl _, by omega, rfl, HA, rfl⟩
      case round =>
        clear HA
        obtain ⟨k, hk1, hk, rfl, hp, rfl⟩ := hrel
        by_cases hlt : k < s.size - 1
        · have h8 : (s[k]'(by omega)).toNat < 256 := UInt8.toNat_lt _
          have hst : Hid (((s.data.toList.take (s.data.toList.length - 1)).drop k).all Pl.litB = (Pl.litB (s[k]'(by omega)) && ((s.data.toList.take (s.data.toList.length - 1)).drop (k + 1)).all Pl.litB)) := Pl.mid_step s.data.toList k (by simp; omega)
          have bad : Pl.litB (s[k]'(by omega)) = false → Hid (A = false) := by
            intro h
            have := hst.out
            rw [h, Bool.false_and, hp.out] at this
            exact this
          rcases litB_cases (s[k]'(by omega)) with ⟨h, hb⟩ | ⟨h, h1, hb⟩ | ⟨h, h1, h2, hb⟩ | ⟨h, h1, h2, h3, hb⟩ | ⟨h, h1, h2, h3, h4, hb⟩ | ⟨h, h1, h2, h3, h4, hb⟩
          iterate 5
            have hB := bad hb
            clear bad hb hst hp
            go_wp2
            go_ret
            exact ⟨by rw [hB.out]; rfl, Below.refl _ _⟩
          · have hg : Hid (((s.data.toList.take (s.data.toList.length - 1)).drop (k + 1)).all Pl.litB = A) := show _ = _ from by
              have := hst.out
              rw [hb, Bool.true_and, hp.out] at this
              exact this.symm
            clear bad hb hst hp
            go_wp2
            go_roundw
            case rel => exact ⟨k + 1, by omega, by omega, by go_num, hg, trivial⟩
            case measure => simp [Lib.intOf]; omega
        · have H0 : Hid (A = true) := show _ = _ from by rw [← hp.out]; exact Pl.mid_done _ k (by simp; omega)
          clear hp
          go_wp2
          go_ret
          exact ⟨by rw [H0.out]; rfl, Below.refl _ _⟩
end Go.Proofs.YtgabjiamabbheaaGreatDoor
