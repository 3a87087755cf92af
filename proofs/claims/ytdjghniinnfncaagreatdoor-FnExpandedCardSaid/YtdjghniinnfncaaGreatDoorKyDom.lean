
/- The walks of the two DomainFault. -/

/- The walks of the two AddressFault, and of the law's own helpers. -/

/- Lowered letters: plain, and the walks of the two. -/

/- The walks of the two AddressKey and of the two WriteBox. -/

/- Domains that begin with no bracket, both sides. -/
import Derived.Test.YtdjghniinnfncaaGreatDoorAddrPlain
import Derived.Deep.QuietTactic
import Derived.Test.YtdjghniinnfncaaGreatDoorAnyVals
import Derived.Laws.IdiomStrings
import Derived.Lib.UnsafeStr
import Derived.WalkSmall
import Derived.BigQuiet
import Derived.Deep.RegionWith
namespace Go.Proofs.YtdjghniinnfncaaGreatDoor
open Go.RowKit Go.Lib
set_option maxRecDepth 20000 in
theorem litB_cases (c : UInt8) : (c.toNat < 32 ∧ Pl.litB c = false) ∨ (32 ≤ c.toNat ∧ 126 < c.toNat ∧ Pl.litB c = false) ∨ (32 ≤ c.toNat ∧ c.toNat ≤ 126 ∧ ((c.toNat : Int) == 91) = true ∧ Pl.litB c = false) ∨
    (32 ≤ c.toNat ∧ c.toNat ≤ 126 ∧ ((c.toNat : Int) == 91) = false ∧ ((c.toNat : Int) == 93) = true ∧ Pl.litB c = false) ∨ (32 ≤ c.toNat ∧ c.toNat ≤ 126 ∧ ((c.toNat : Int) == 91) = false ∧ ((c.toNat : Int) == 93) = false ∧ ((c.toNat : Int) == 92) = true ∧ Pl.litB c = false) ∨
    (32 ≤ c.toNat ∧ c.toNat ≤ 126 ∧ ((c.toNat : Int) == 91) = false ∧ ((c.toNat : Int) == 93) = false ∧ ((c.toNat : Int) == 92) = false ∧ Pl.litB c = true) := by
  by_cases h1 : c.toNat < 32
  · exact .inl ⟨h1, by simp [Pl.litB]; omega⟩
  by_cases h2 : 126 < c.toNat
  · exact .inr (.inl ⟨by omega, h2, by simp [Pl.litB]; omega⟩)
  cases h3 : ((c.toNat : Int) == 91)
  · have n3 := Pl.byte_ne c 91 _ rfl h3
    cases h4 : ((c.toNat : Int) == 93)
    · have n4 := Pl.byte_ne c 93 _ rfl h4
      cases h5 : ((c.toNat : Int) == 92)
      · have n5 := Pl.byte_ne c 92 _ rfl h5
        exact .inr (.inr (.inr (.inr (.inr ⟨by omega, by omega, rfl, rfl, rfl, by simp [Pl.litB, n3, n4, n5]; omega⟩))))
      · exact .inr (.inr (.inr (.inr (.inl ⟨by omega, by omega, rfl, rfl, rfl, by rw [Pl.byte_eq c 92 _ rfl h5]; decide⟩))))
    · exact .inr (.inr (.inr (.inl ⟨by omega, by omega, rfl, rfl, by rw [Pl.byte_eq c 93 _ rfl h4]; decide⟩)))
  · exact .inr (.inr (.inl ⟨by omega, by omega, rfl, by rw [Pl.byte_eq c 91 _ rfl h3]; decide⟩))
set_option maxRecDepth 20000 in
theorem implLitByte (c : UInt8) (w : World) : Calls Tryz.prog 93 #[.int .u8 (c.toNat : Int)] w fun e w' => e = .returned (.bool (Pl.litB c)) ∧ w = w' := by
  have h8 : c.toNat < 256 := UInt8.toNat_lt _
  rcases litB_cases c with ⟨h, hb⟩ | ⟨h, h1, hb⟩ | ⟨h, h1, h2, hb⟩ | ⟨h, h1, h2, h3, hb⟩ | ⟨h, h1, h2, h3, h4, hb⟩ | ⟨h, h1, h2, h3, h4, hb⟩ <;> rw [hb] <;> clear hb
  all_goals
    try have g2 : ((c.toNat : Int) != 91) = !((c.toNat : Int) == 91) := rfl
    try have g3 : ((c.toNat : Int) != 93) = !((c.toNat : Int) == 93) := rfl
    try have g4 : ((c.toNat : Int) != 92) = !((c.toNat : Int) == 92) := rfl
    try rw [h2] at g2
    try rw [h3] at g3
    try rw [h4] at g4
    try rw [Bool.not_true] at g2
    try rw [Bool.not_false] at g2
    try rw [Bool.not_true] at g3
    try rw [Bool.not_false] at g3
    try rw [Bool.not_true] at g4
    try rw [Bool.not_false] at g4
    go_enter Tryz.func93, Tryz.ntmps93
    go_wp2
    go_ret
    first | exact ⟨rfl, rfl⟩ | exact ⟨congrArg (fun b => Ending.returned (.bool b)) (by simp; omega), rfl⟩ | exact ⟨congrArg (fun b => Ending.returned (.bool b)) (by first | exact g2 | exact g3 | exact g4), rfl⟩
set_option maxRecDepth 20000 in
theorem kindLit : Kind 93 Pl.litB := ⟨Go.Proofs.enters_of Tryz.func93 (by kernel_rfl) rfl, implLitByte⟩
set_option maxRecDepth 20000 in
theorem trimP_len (l p : List UInt8) : (trimPrefix l p).length ≤ l.length := by
  unfold trimPrefix
  split
  · simp
  · exact Nat.le_refl _
set_option maxRecDepth 20000 in
theorem trimS_len (l p : List UInt8) : (trimSuffix l p).length ≤ l.length := by
  unfold trimSuffix
  split
  · simp
  · exact Nat.le_refl _
set_option maxRecDepth 20000 in
set_option maxHeartbeats 400000 in
theorem implIsLit (s : ByteArray) (w : World) (hs : s.size ≤ 100000) :
    Calls Tryz.prog 77 #[.string s] w fun e w' => e = .returned (.bool (Pl.isLit s.data.toList)) ∧ w' = w := by
  have hp := Tryz.strings_CutPrefix s ⟨#[91]⟩ w
  have hl1 : (trimPrefix s.data.toList [91]).length ≤ 100000 := Nat.le_trans (trimP_len _ _) (by simpa using hs)
  have hl2 : (trimSuffix (trimPrefix s.data.toList [91]) [93]).length ≤ 100000 := Nat.le_trans (trimS_len _ _) hl1
  have hq := Tryz.strings_CutSuffix ⟨(trimPrefix s.data.toList [91]).toArray⟩ ⟨#[93]⟩ w (by show (trimPrefix s.data.toList [91]).toArray.size ≤ _; simp; omega)
  have ha := implAllOf kindLit ⟨(trimSuffix (trimPrefix s.data.toList [91]) [93]).toArray⟩ w (by show (trimSuffix (trimPrefix s.data.toList [91]) [93]).toArray.size ≤ _; simp; omega)
  unfold Pl.isLit
  simp only at hp
  simp only at hq
  simp only at ha
  clear hl1 hl2
  generalize trimSuffix (trimPrefix s.data.toList [91]) [93] = q at *
  generalize trimPrefix s.data.toList [91] = p at *
  generalize hasPrefix s.data.toList [91] = b1 at *
  generalize hasSuffix p [93] = b2 at *
  generalize q.all Pl.litB = b3 at *
  cases b1 <;> cases b2
  all_goals
    go_enter Tryz.func77, Tryz.ntmps77
    go_wp2_with first | (go_at_call 92; go_must (refine hp.mono ?_; rintro e w2 ⟨rfl, rfl⟩)) | (go_at_call 37; go_must (refine hq.mono ?_; rintro e w2 ⟨rfl, rfl⟩)) | (go_at_call 79; go_must (refine ha.mono ?_; rintro e w2 ⟨rfl, rfl⟩))
    go_ret
    exact ⟨rfl, rfl⟩
def dcode (b : Bool) : Int := if b then 0 else 1
set_option maxRecDepth 20000 in
set_option maxHeartbeats 400000 in
theorem implDomain (s : ByteArray) (m : Int) (w : World) (hs : s.size ≤ 1100000) (hm : w.cell? ⟨0, 0, none⟩ = some (.int .i64 m)) :
    Calls Tryz.prog 59 #[.string s] w fun e w' => e = .returned (.int .i64 (dcode (Pl.domI s.data.toList))) ∧ Below w.heap.size w w' := by
  have hll : s.data.toList.length = s.size := by simp
  by_cases hn : s.size ≤ 255
  · have ha := implAreAtoms 46 Pl.atom_point s m w (by omega) hm
    have hb := fun w => implIsLit s w (by omega)
    rw [Pl.domI, decide_eq_true (by omega), Bool.true_and]
    generalize Pl.scan 46 false s.data.toList = b1 at ha ⊢
    generalize Pl.isLit s.data.toList = b2 at hb ⊢
    clear hm
    cases b1 <;> cases b2
    all_goals
      go_enter Tryz.func59, Tryz.ntmps59
      go_wp2_with first | (go_at_call 76; go_must (refine ha.mono ?_; rintro e w2 ⟨rfl, hb2⟩)) | (go_at_call 77; go_must (refine (hb _).mono ?_; rintro e w3 ⟨rfl, rfl⟩))
      go_ret
      exact ⟨rfl, hb2⟩
  · rw [Pl.domI, decide_eq_false (by omega), Bool.false_and]
    clear hm
    go_enter Tryz.func59, Tryz.ntmps59
    go_wp2
    go_ret
    exact ⟨rfl, Below.refl _ _⟩
set_option maxRecDepth 20000 in
set_option maxHeartbeats 1000000 in
theorem specDomain (s : ByteArray) (w : World) (hs : s.size ≤ 1100000) :
    Calls Tryz.prog 64 #[.string s] w fun e w' => e = .returned (.int .i64 (dcode (Pl.domI s.data.toList))) ∧ Below w.heap.size w w' := by
  have hll : s.data.toList.length = s.size := by simp
  by_cases h0 : s.size < 1
  · rw [show Pl.domI s.data.toList = false from by
      have : s.data.toList = [] := List.length_eq_zero_iff.1 (by omega)
      rw [this]; rfl]
    go_enter Tryz.func64, Tryz.ntmps64
    go_wp2
    go_ret
    exact ⟨rfl, Below.refl _ _⟩
  by_cases hn : 255 < s.size
  · rw [Pl.domI, decide_eq_false (by omega), Bool.false_and]
    go_enter Tryz.func64, Tryz.ntmps64
    go_wp2
    go_ret
    exact ⟨rfl, Below.refl _ _⟩
  have h0' : 0 < s.size := Nat.lt_of_not_le (fun h => h0 (Nat.lt_of_le_of_lt h Nat.one_pos))
  have hcons : s.data.toList = s[0]'h0' :: s.data.toList.drop 1 := by
    have := Pl.drop_cons s.data.toList 0 (by omega)
    rw [List.drop_zero] at this
    exact this
  have h8 : (s[0]'h0').toNat < 256 := UInt8.toNat_lt _
  cases h91 : ((((s[0]'h0').toNat : Nat) : Int) == 91)
  · have hne : ((((s[0]'h0').toNat : Nat) : Int) != 91) = true := by rw [bne, h91]; rfl
    have ha := specAtoms 46 46 rfl s w hs
    rw [Pl.dom_atoms _ _ _ hcons (Pl.byte_ne _ 91 _ rfl h91) (by omega)]
    generalize Pl.scan 46 false s.data.toList = b1 at ha ⊢
    clear hcons hll
    cases b1
    all_goals
      go_enter Tryz.func64, Tryz.ntmps64
      go_wp2_with (go_at_call 84; go_must (refine ha.mono ?_; rintro e w2 ⟨rfl, hb2⟩))
      go_ret
      exact ⟨rfl, hb2⟩
  · have hne : ((((s[0]'h0').toNat : Nat) : Int) != 91) = false := by rw [bne, h91]; rfl
    have hc : s.data.toList = 91 :: s.data.toList.drop 1 := by
      rw [← Pl.byte_eq _ 91 _ rfl h91]; exact hcons
    rw [Pl.dom_lit _ _ hc (by omega)]
    by_cases h2 : s.size < 2
    · rw [Pl.lit_short _ _ hc (by omega)]
      clear hcons hc hll
      go_enter Tryz.func64, Tryz.ntmps64
      go_wp2
      go_ret
      exact ⟨rfl, Below.refl _ _⟩
    have hl' : s.size - 1 < s.size := Nat.sub_lt h0' Nat.one_pos
    have hidx : ((s.size : Int) - 1).toNat = s.size - 1 := by omega
    have h8' : (s[s.size - 1]'hl').toNat < 256 := UInt8.toNat_lt _
    have hlast : s.data.toList[s.data.toList.length - 1]'(by omega) = s[s.size - 1]'hl' := by simp; rfl
    cases h93 : ((((s[s.size - 1]'hl').toNat : Nat) : Int) == 93)
    · rw [Pl.lit_open _ _ hc (by omega) (by rw [hlast]; exact Pl.byte_ne _ 93 _ rfl h93)]
      have hn3 : ((((s[s.size - 1]'hl').toNat : Nat) : Int) != 93) = true := by rw [bne, h93]; rfl
      clear hcons hc hll hlast
      go_enter Tryz.func64, Tryz.ntmps64
      go_wp2
      go_ret
      exact ⟨rfl, Below.refl _ _⟩
    · rw [Pl.lit_mid _ _ hc (by omega) (by rw [hlast]; exact Pl.byte_eq _ 93 _ rfl h93), Pl.mid]
      have hn3 : ((((s[s.size - 1]'hl').toNat : Nat) : Int) != 93) = false := by rw [bne, h93]; rfl
      obtain ⟨A, hA⟩ : ∃ A, ((s.data.toList.take (s.data.toList.length - 1)).drop 1).all Pl.litB = A := ⟨_, rfl⟩
      rw [hA]
      have HA : Hid (((s.data.toList.take (s.data.toList.length - 1)).drop 1).all Pl.litB = A) := hA
      clear hcons hc hll hlast hA
      go_enter Tryz.func64, Tryz.ntmps64
      go_wp2
      clear hn3 h93 h91 hne h8 h8'
      go_loopw [3] (fun i wr => ∃ k : Nat, 1 ≤ k ∧ k ≤ s.size - 1 ∧ i = .int .i64 k ∧ Hid (((s.data.toList.take (s.data.toList.length - 1)).drop k).all Pl.litB = A) ∧ wr = w) (fun i _ => s.size - (Lib.intOf i).toNat)
      case atStart => exact ⟨1, Nat.le_refl _, by omega, rfl, HA, rfl⟩
      case round =>
        clear HA
        obtain ⟨k, hk1, hk, rfl, hp, rfl⟩ := hrel
        by_cases hlt : k < s.size - 1
        · have h8 : (s[k]'(by omega)).toNat < 256 := UInt8.toNat_lt _
          have hst : Hid (((s.data.toList.take (s.data.toList.length - 1)).drop k).all Pl.litB = (Pl.litB (s[k]'(by omega)) && ((s.data.toList.take (s.data.toList.length - 1)).drop (k + 1)).all Pl.litB)) := Pl.mid_step s.data.toList k (by simp; omega)
          have bad : Pl.litB (s[k]'(by omega)) = false → Hid (A = false) := by
            intro h
            have := hst.out
            rw [h, Bool.false_and, hp.out] at this
            exact this
          rcases litB_cases (s[k]'(by omega)) with ⟨h, hb⟩ | ⟨h, h1, hb⟩ | ⟨h, h1, h2, hb⟩ | ⟨h, h1, h2, h3, hb⟩ | ⟨h, h1, h2, h3, h4, hb⟩ | ⟨h, h1, h2, h3, h4, hb⟩
          iterate 5
            have hB := bad hb
            clear bad hb hst hp
            go_wp2
            go_ret
            exact ⟨by rw [hB.out]; rfl, Below.refl _ _⟩
          · have hg : Hid (((s.data.toList.take (s.data.toList.length - 1)).drop (k + 1)).all Pl.litB = A) := show _ = _ from by
              have := hst.out
              rw [hb, Bool.true_and, hp.out] at this
              exact this.symm
            clear bad hb hst hp
            go_wp2
            go_roundw
            case rel => exact ⟨k + 1, by omega, by omega, by go_num, hg, trivial⟩
            case measure => simp [Lib.intOf]; omega
        · have H0 : Hid (A = true) := show _ = _ from by rw [← hp.out]; exact Pl.mid_done _ k (by simp; omega)
          clear hp
          go_wp2
          go_ret
          exact ⟨by rw [H0.out]; rfl, Below.refl _ _⟩
end Go.Proofs.YtdjghniinnfncaaGreatDoor
namespace Go.Proofs.YtdjghniinnfncaaGreatDoor
open Go.RowKit Go.Lib
abbrev box3 (n l d : ByteArray) : Value := .agg #[.string n, .string l, .string d]
def addrOk (n l d : ByteArray) : Bool := decide (1 ≤ l.size) && (decide (l.size ≤ 64) && (l.data.toList.all Pl.tb && (decide (n.size ≤ 200) && (n.data.toList.all Pl.tb && Pl.domI d.data.toList))))
set_option maxRecDepth 20000 in
theorem implIsName (s : ByteArray) (w : World) (hs : s.size ≤ 1100000) :
    Calls Tryz.prog 81 #[.string s] w fun e w' => e = .returned (.bool (decide (s.size ≤ 200) && s.data.toList.all Pl.tb)) ∧ w = w' := by
  by_cases hn : s.size ≤ 200
  · have ha := implAllOf kindText s w hs
    rw [decide_eq_true hn, Bool.true_and]
    generalize s.data.toList.all Pl.tb = b at *
    go_enter Tryz.func81, Tryz.ntmps81
    go_wp2_with (go_at_call 79; go_must (refine ha.mono ?_; rintro e w2 ⟨rfl, rfl⟩))
    go_ret
    exact ⟨rfl, rfl⟩
  · rw [decide_eq_false hn, Bool.false_and]
    go_enter Tryz.func81, Tryz.ntmps81
    go_wp2
    go_ret
    exact ⟨rfl, rfl⟩
set_option maxRecDepth 20000 in
theorem specIsName (s : ByteArray) (w : World) (hs : s.size ≤ 1100000) :
    Calls Tryz.prog 65 #[.string s] w fun e w' => e = .returned (.bool (decide (s.size ≤ 200) && s.data.toList.all Pl.tb)) ∧ w = w' := by
  by_cases hn : s.size ≤ 200
  · have ha := specClean s w hs
    rw [decide_eq_true hn, Bool.true_and]
    generalize s.data.toList.all Pl.tb = b at *
    go_enter Tryz.func65, Tryz.ntmps65
    go_wp2_with (go_at_call 63; go_must (refine ha.mono ?_; rintro e w2 ⟨rfl, rfl⟩))
    go_ret
    exact ⟨rfl, rfl⟩
  · rw [decide_eq_false hn, Bool.false_and]
    go_enter Tryz.func65, Tryz.ntmps65
    go_wp2
    go_ret
    exact ⟨rfl, rfl⟩
set_option maxRecDepth 20000 in
theorem isEmpty_of (q : ByteArray) (h0 : q.size = 0) : q.toList.isEmpty = true := by
  rw [ByteArray.toList_eq, List.isEmpty_iff]
  exact List.length_eq_zero_iff.1 (by rw [Pl.len_list]; exact h0)
set_option maxRecDepth 20000 in
theorem isEmpty_ne (q : ByteArray) (h0 : ¬ q.size = 0) : q.toList.isEmpty = false := by
  rw [ByteArray.toList_eq, List.isEmpty_eq_false_iff]
  intro e
  exact h0 (by rw [← Pl.len_list, e]; rfl)
set_option maxRecDepth 20000 in
theorem cell_alloc {w : World} {v : Value} {a : Addr} (b : Obj) (h : w.cell? a = some v) : (w.alloc b).cell? a = some v := by
  have hb : Below w.heap.size w (w.alloc b) := (Below.refl _ _).alloc (Nat.le_refl _) _
  exact (hb.cell (bcell_lt h)).trans h
set_option maxRecDepth 20000 in
set_option maxHeartbeats 1000000 in
theorem implAddress (n l d : ByteArray) (m : Int) (w : World) (hn : n.size ≤ 1100000) (hl : l.size ≤ 1100000) (hd : d.size ≤ 1100000) (hm : w.cell? ⟨0, 0, none⟩ = some (.int .i64 m)) :
    Calls Tryz.prog 61 #[box3 n l d] w fun e w' => e = .returned (.int .i64 (dcode (addrOk n l d))) ∧ Below w.heap.size w w' := by
  have hN := fun w => implIsName n w hn
  have hA := fun w => implAllOf kindText l w hl
  have hD := fun w hm => implDomain d m w hd hm
  have hm' := fun b => cell_alloc b hm
  have hbA : ∀ b, Below w.heap.size w (w.alloc b) := fun b => (Below.refl _ _).alloc (Nat.le_refl _) _
  unfold addrOk
  generalize Pl.domI d.data.toList = b3 at *
  by_cases h0 : l.size = 0
  · have hE := isEmpty_of l h0
    rw [decide_eq_false (by omega), Bool.false_and]
    clear hD hm hm'
    go_enter Tryz.func61, Tryz.ntmps61
    go_wp2
    go_ret
    exact ⟨rfl, hbA _⟩
  have hE := isEmpty_ne l h0
  rw [decide_eq_true (by omega), Bool.true_and]
  by_cases h1 : 64 < l.size
  · rw [decide_eq_false (by omega), Bool.false_and]
    clear hD hm hm'
    go_enter Tryz.func61, Tryz.ntmps61
    go_wp2
    go_ret
    exact ⟨rfl, hbA _⟩
  rw [decide_eq_true (by omega), Bool.true_and]
  generalize l.data.toList.all Pl.tb = b1 at *
  rw [← Bool.and_assoc (decide (n.size ≤ 200))]
  generalize (decide (n.size ≤ 200) && n.data.toList.all Pl.tb) = b2 at *
  have HD := (show Hid _ from hD)
  have HM := (show Hid _ from hm')
  clear hD hm hm'
  cases b1
  · go_enter Tryz.func61, Tryz.ntmps61
    go_wp2_with (go_at_call 79; go_must (refine (hA _).mono ?_; rintro e w2 ⟨rfl, rfl⟩))
    go_ret
    exact ⟨rfl, hbA _⟩
  cases b2
  · go_enter Tryz.func61, Tryz.ntmps61
    go_wp2_with first | (go_at_call 79; go_must (refine (hA _).mono ?_; rintro e w2 ⟨rfl, rfl⟩)) | (go_at_call 81; go_must (refine (hN _).mono ?_; rintro e w2 ⟨rfl, rfl⟩))
    go_ret
    exact ⟨rfl, hbA _⟩
  · go_enter Tryz.func61, Tryz.ntmps61
    go_wp2_with first | (go_at_call 79; go_must (refine (hA _).mono ?_; rintro e w2 ⟨rfl, rfl⟩)) | (go_at_call 81; go_must (refine (hN _).mono ?_; rintro e w2 ⟨rfl, rfl⟩)) | (go_at_call 59; go_must (refine (HD.out _ (HM.out _)).mono ?_; rintro e w3 ⟨rfl, hb3⟩))
    go_ret
    exact ⟨rfl, (hbA _).trans (hb3.mono (hbA _).size)⟩
set_option maxRecDepth 20000 in
set_option maxHeartbeats 1000000 in
theorem specAddress (n l d : ByteArray) (w : World) (hn : n.size ≤ 1100000) (hl : l.size ≤ 1100000) (hd : d.size ≤ 1100000) :
    Calls Tryz.prog 42 #[box3 n l d] w fun e w' => e = .returned (.int .i64 (dcode (addrOk n l d))) ∧ Below w.heap.size w w' := by
  have hN := fun w => specIsName n w hn
  have hA := fun w => specClean l w hl
  have hD := fun w => specDomain d w hd
  have hbA : ∀ b, Below w.heap.size w (w.alloc b) := fun b => (Below.refl _ _).alloc (Nat.le_refl _) _
  unfold addrOk
  generalize Pl.domI d.data.toList = b3 at *
  by_cases h0 : l.size = 0
  · rw [decide_eq_false (by omega), Bool.false_and]
    go_enter Tryz.func42, Tryz.ntmps42
    go_wp2
    go_ret
    exact ⟨rfl, hbA _⟩
  rw [decide_eq_true (by omega), Bool.true_and]
  by_cases h1 : 64 < l.size
  · rw [decide_eq_false (by omega), Bool.false_and]
    go_enter Tryz.func42, Tryz.ntmps42
    go_wp2
    go_ret
    exact ⟨rfl, hbA _⟩
  rw [decide_eq_true (by omega), Bool.true_and]
  generalize l.data.toList.all Pl.tb = b1 at *
  rw [← Bool.and_assoc (decide (n.size ≤ 200))]
  generalize (decide (n.size ≤ 200) && n.data.toList.all Pl.tb) = b2 at *
  cases b1
  · go_enter Tryz.func42, Tryz.ntmps42
    go_wp2_with (go_at_call 63; go_must (refine (hA _).mono ?_; rintro e w2 ⟨rfl, rfl⟩))
    go_ret
    exact ⟨rfl, hbA _⟩
  have hcell : ∀ (b : TypeId) (w3 : World), Below (w.alloc (.cells #[.string n, .string l, .string d] b)).heap.size (w.alloc (.cells #[.string n, .string l, .string d] b)) w3 → w3.cell? ⟨w.heap.size, 0, none⟩ = some (.string n) := by
    intro b w3 hb
    refine (hb.cell (p := ⟨w.heap.size, 0, none⟩) (by simp)).trans ?_
    simp
  cases b3
  all_goals
    cases b2
    all_goals
      go_enter Tryz.func42, Tryz.ntmps42
      go_wp2_with first | (go_at_call 63; go_must (refine (hA _).mono ?_; rintro e w2 ⟨rfl, rfl⟩)) | (go_at_call 64; go_must (refine (hD _).mono ?_; rintro e w3 ⟨rfl, hb3⟩; have hc3 := hcell _ _ hb3; simp only [dcode])) | (go_at_call 65; go_must (refine (hN _).mono ?_; rintro e w4 ⟨rfl, rfl⟩))
      go_ret
      exact ⟨rfl, (hbA _).trans (hb3.mono (hbA _).size)⟩
end Go.Proofs.YtdjghniinnfncaaGreatDoor
namespace Go.Proofs.YtdjghniinnfncaaGreatDoor
open Go.RowKit Go.Lib
set_option maxRecDepth 20000 in
theorem mkH {p : Prop} (h : p) : Hid p := h
def small (c : UInt8) : UInt8 := if 65 ≤ c.toNat ∧ c.toNat ≤ 90 then UInt8.ofNat (c.toNat + 32) else c
def lower (l : List UInt8) : List UInt8 := l.map small

set_option maxRecDepth 20000 in
theorem small_yes (c : UInt8) (h : 65 ≤ c.toNat ∧ c.toNat ≤ 90) : ((small c).toNat : Int) = (c.toNat : Int) + 32 := by
  unfold small
  rw [if_pos h, UInt8.toNat_ofNat_of_lt' (by simp [UInt8.size]; omega)]
  omega
set_option maxRecDepth 20000 in
theorem small_no (c : UInt8) (h : ¬ (65 ≤ c.toNat ∧ c.toNat ≤ 90)) : small c = c := by
  unfold small
  rw [if_neg h]

/-- The bytes that are lowered so far. -/
def lowTo (l : List UInt8) (k : Nat) : List UInt8 := lower (l.take k) ++ l.drop k
set_option maxRecDepth 20000 in
theorem lowTo_len (l : List UInt8) (k : Nat) : (lowTo l k).length = l.length := by
  simp only [lowTo, lower, List.length_append, List.length_map, List.length_take, List.length_drop]; omega
set_option maxRecDepth 20000 in
theorem lowTo_zero (l : List UInt8) : lowTo l 0 = l := by simp [lowTo, lower]
set_option maxRecDepth 20000 in
theorem lowTo_all (l : List UInt8) (k : Nat) (h : l.length ≤ k) : lowTo l k = lower l := by
  rw [lowTo, List.take_of_length_le h, List.drop_eq_nil_of_le h, List.append_nil]
set_option maxRecDepth 20000 in
theorem lowTo_get (l : List UInt8) (k : Nat) (h : k < l.length) : (lowTo l k)[k]'(by rw [lowTo_len]; exact h) = l[k] := by
  simp only [lowTo, lower]
  rw [List.getElem_append_right (by simp; omega)]
  simp [List.length_take, Nat.min_eq_left (Nat.le_of_lt h)]
set_option maxRecDepth 20000 in
theorem lowTo_set (l : List UInt8) (k : Nat) (h : k < l.length) : (lowTo l k).set k (small l[k]) = lowTo l (k + 1) := by
  have e1 : l.take (k + 1) = l.take k ++ [l[k]] := by rw [List.take_succ_eq_append_getElem h]
  have hl : (lower (l.take k)).length = k := by simp [lower]; omega
  rw [lowTo, List.set_append, if_neg (by omega), hl, Nat.sub_self, List.drop_eq_getElem_cons h, List.set_cons_zero, lowTo, e1, lower, lower, List.map_append, List.append_assoc]
  rfl
set_option maxRecDepth 20000 in
theorem lowTo_same (l : List UInt8) (k : Nat) (h : k < l.length) (hs : small l[k] = l[k]) : lowTo l k = lowTo l (k + 1) := by
  rw [← lowTo_set l k h, hs, ← lowTo_get l k h, List.set_getElem_self]

/-- Block g holds the bytes p, each free to be written. -/
def HoldsB (g : Nat) (p : List UInt8) (w : World) : Prop := ∀ (j : Nat) (hj : j < p.length), w.cell? ⟨g, j, none⟩ = some (.int .u8 (p[j].toNat : Int)) ∧ w.frozen? ⟨g, j, none⟩ = false

set_option maxRecDepth 20000 in
theorem HoldsB.back {P : Program} {g cap : Nat} {p : List UInt8} {w : World} (h : HoldsB g p w) (src dst : TypeId) (hs : P.underlying src = some (.slice 5)) (he : P.underlying 5 = some (.int .u8)) (hd : P.underlying dst = some .string) :
    (convert src dst (.slice (some ⟨g, 0, none⟩) p.length cap)).run P w = .ok (.string ⟨p.toArray⟩) w :=
  run_convert_bytes_back w src dst 5 ⟨g, 0, none⟩ cap p hs he hd (fun j hj => by rw [add_off]; exact (h j hj).1)

set_option maxRecDepth 20000 in
theorem bytesOf {P : Program} (src dst : TypeId) (hs : P.underlying src = some .string) (hd : P.underlying dst = some (.slice 5)) (he : P.underlying 5 = some (.int .u8)) (s : ByteArray) (w : World) :
    ∃ cap W, (convert src dst (.string s)).run P w = .ok (.slice (some ⟨w.heap.size, 0, none⟩) s.size cap) W ∧ HoldsB w.heap.size s.data.toList W ∧ Below w.heap.size w W := by
  refine ⟨_, _, run_bytes_of_string w src dst 5 s hs hd he, ?_, (Below.refl _ _).drew.alloc (Nat.le_refl _) _⟩
  intro j hj
  have hj' : j < s.data.size := by simpa using hj
  have hsz : j < (bytesRow s (grownCap w s.size 0 5)).size := by
    simp only [bytesRow, Array.size_append, Array.size_map]; omega
  constructor
  · have e := World.cell?_alloc_mark w.drew (bytesRow s (grownCap w s.size 0 5)) 5 ((bytesRow s (grownCap w s.size 0 5)).size, (bytesRow s (grownCap w s.size 0 5)).size + 1) j
    refine e.trans ?_
    unfold bytesRow
    rw [Array.getElem?_append_left (by simpa using hj')]
    rw [Array.getElem?_map, Array.getElem?_eq_getElem hj']
    rfl
  · have e := World.frozen?_alloc_mark w.drew (bytesRow s (grownCap w s.size 0 5)) 5 (bytesRow s (grownCap w s.size 0 5)).size ((bytesRow s (grownCap w s.size 0 5)).size + 1) j
    refine e.trans ?_
    simp only [Bool.and_eq_false_imp, decide_eq_true_eq, decide_eq_false_iff_not]
    omega
set_option maxRecDepth 20000 in
theorem HoldsB.set {g : Nat} {p : List UInt8} {w : World} (h : HoldsB g p w) (k : Nat) (hk : k < p.length) (c : UInt8) : HoldsB g (p.set k c) (w.setCell ⟨g, k, none⟩ (.int .u8 (c.toNat : Int))) := by
  intro j hj
  have hj' : j < p.length := by simpa using hj
  refine ⟨?_, by rw [World.frozen?_setCell]; exact (h j hj').2⟩
  by_cases e : k = j
  · subst e
    rw [World.cell?_setCell_same w _ _ (h k hk).1, List.getElem_set_self]
  · rw [World.cell?_setCell_other w ⟨g, k, none⟩ ⟨g, j, none⟩ _ (by simp), List.getElem_set_ne e]
    exact (h j hj').1
set_option maxRecDepth 20000 in
set_option maxHeartbeats 1000000 in
theorem implLowered (s : ByteArray) (w : World) (hs : s.size ≤ 100000) :
    Calls Tryz.prog 29 #[.string s] w fun e w' => e = .returned (.string ⟨(lower s.data.toList).toArray⟩) ∧ Below w.heap.size w w' := by
  obtain ⟨cap, W, hcv, hh, hbW⟩ := bytesOf (P := Tryz.prog) 9 22 Tryz.underlying9 Tryz.underlying22 Tryz.underlying5 s w
  go_enter Tryz.func29, Tryz.ntmps29
  go_wp2
  clear hcv
  go_loopw [10] (fun i wr => ∃ k : Nat, k ≤ s.size ∧ i = .int .i64 k ∧ HoldsB w.heap.size (lowTo s.data.toList k) wr ∧ Below w.heap.size w wr) (fun i _ => s.size - (Lib.intOf i).toNat)
  case atStart => exact ⟨0, by omega, rfl, by rw [lowTo_zero]; exact hh, hbW⟩
  case round =>
    obtain ⟨k, hk, rfl, hold, hb⟩ := hrel
    have hll : s.data.toList.length = s.size := by simp
    by_cases hlt : k < s.size
    · obtain ⟨hc, hf⟩ := hold k (by rw [lowTo_len]; omega)
      rw [lowTo_get _ _ (by omega)] at hc
      have hset := lowTo_set s.data.toList k (by omega)
      have hsame := lowTo_same s.data.toList k (by omega)
      have hst := fun c => hold.set k (by rw [lowTo_len]; omega) c
      generalize s.data.toList[k] = c at hc hset hsame
      have h8 : c.toNat < 256 := UInt8.toNat_lt _
      by_cases hc1 : 65 ≤ c.toNat ∧ c.toNat ≤ 90
      · have hv := small_yes c hc1
        have hst' := mkH (hst (small c))
        rw [hset, hv] at hst'
        obtain ⟨h65, h90⟩ := hc1
        clear hset hsame hst hold hv hll
        have hb' := hb.setCell (p := ⟨w.heap.size, k, none⟩) (Nat.le_refl _) (.int .u8 ((c.toNat : Int) + 32))
        have hb'' := mkH hb'
        clear hb'
        go_wp2
        rw [show (c.toNat : Int) - 65 + 97 = (c.toNat : Int) + 32 by omega]
        go_roundw
        case rel => exact ⟨k + 1, by omega, by go_num, hst'.out, hb''.out⟩
        case measure => simp [Lib.intOf]; omega
      · have hv := mkH (hsame (small_no c hc1))
        clear hset hsame hst hll
        by_cases h65 : 65 ≤ c.toNat
        · have h90 : 90 < c.toNat := by omega
          clear hc1
          go_wp2
          go_roundw
          case rel => exact ⟨k + 1, by omega, by go_num, by rw [← hv.out]; exact hold, hb⟩
          case measure => simp [Lib.intOf]; omega
        · clear hc1
          go_wp2
          go_roundw
          case rel => exact ⟨k + 1, by omega, by go_num, by rw [← hv.out]; exact hold, hb⟩
          case measure => simp [Lib.intOf]; omega
    · rw [lowTo_all _ _ (by omega)] at hold
      have hlen : (lower s.data.toList).length = s.size := by simp [lower]
      have hbk := hold.back (P := Tryz.prog) (cap := cap) 22 9 Tryz.underlying22 Tryz.underlying5 Tryz.underlying9
      rw [hlen] at hbk
      clear hlen hll hold
      go_wp2
      go_ret
      exact ⟨rfl, hb⟩
set_option maxRecDepth 20000 in
set_option maxHeartbeats 400000 in
theorem specSmall (c : UInt8) (w : World) :
    Calls Tryz.prog 72 #[.int .u8 (c.toNat : Int)] w fun e w' => e = .returned (.int .u8 ((small c).toNat : Int)) ∧ w = w' := by
  have h8 : c.toNat < 256 := UInt8.toNat_lt _
  by_cases hc : 65 ≤ c.toNat ∧ c.toNat ≤ 90
  · rw [small_yes c hc]
    obtain ⟨h65, h90⟩ := hc
    go_enter Tryz.func72, Tryz.ntmps72
    go_wp2
    go_ret
    exact ⟨rfl, rfl⟩
  · rw [small_no c hc]
    by_cases h65 : 65 ≤ c.toNat
    · have h90 : 90 < c.toNat := by omega
      clear hc
      go_enter Tryz.func72, Tryz.ntmps72
      go_wp2
      go_ret
      exact ⟨rfl, rfl⟩
    · clear hc
      go_enter Tryz.func72, Tryz.ntmps72
      go_wp2
      go_ret
      exact ⟨rfl, rfl⟩
set_option maxRecDepth 20000 in
set_option maxHeartbeats 400000 in
theorem specLower (s : ByteArray) (w : World) (hs : s.size ≤ 100000) :
    Calls Tryz.prog 53 #[.string s] w fun e w' => e = .returned (.string ⟨(lower s.data.toList).toArray⟩) ∧ Below w.heap.size w w' := by
  obtain ⟨i0, hi, hz0, hz1, hz2⟩ := info_parts Tryz.info5
  go_enter Tryz.func53, Tryz.ntmps53
  go_wp2
  go_loopw [3, 4] (fun v i wr => ∃ k : Nat, k ≤ s.size ∧ i = .int .i64 k ∧ Own w.heap.size v (lower (s.data.toList.take k)) wr ∧ Below w.heap.size w wr) (fun _ i _ => s.size - (Lib.intOf i).toNat)
  case atStart => exact ⟨0, Nat.zero_le _, rfl, Own.made _ _ (Nat.le_refl _), (Below.refl _ _).alloc (Nat.le_refl _) _⟩
  case round =>
    obtain ⟨k, hk, rfl, hown, hb⟩ := hrel
    by_cases hlt : k < s.size
    · have hll : s.data.toList.length = s.size := by simp
      have hlen : (lower (s.data.toList.take k)).length = k := by simp only [lower, List.length_map, List.length_take]; omega
      have hstep : Hid (lower (s.data.toList.take k) ++ [small s[k]] = lower (s.data.toList.take (k + 1))) := by
        rw [List.take_succ_eq_append_getElem (by omega), lower, lower, List.map_append]; exact rfl
      have h8 : (small s[k]).toNat < 256 := UInt8.toNat_lt _
      generalize lower (s.data.toList.take k) = p at *
      clear hll
      go_wp2_with fail
      refine (specSmall s[k] _).mono ?_
      rintro e w2 ⟨rfl, rfl⟩
      generalize small s[k] = c at *
      go_wp2_with (at_builtin; go_must (refine wp_app (W := w) rfl _ _ 22 rfl i0 Tryz.underlying22 hi hz0 hz1 hz2 w.heap.size u3 p rfl hown _ [c] rfl 1 1 rfl rfl (by simp; omega) (Nat.le_refl _) hb ?_; intro v' w' hown' hb'))
      go_roundw
      case rel => exact ⟨k + 1, by omega, by go_num, by rw [← hstep.out]; exact hown', hb'⟩
      case measure => simp [Lib.intOf]; omega
    · rw [List.take_of_length_le (by simp; omega)] at hown
      have hbk := hown.back (P := Tryz.prog) 22 9 Tryz.underlying22 Tryz.underlying5 Tryz.underlying9
      go_wp2
      go_ret
      exact ⟨rfl, hb⟩
end Go.Proofs.YtdjghniinnfncaaGreatDoor
namespace Go.Proofs.YtdjghniinnfncaaGreatDoor
open Go.RowKit Go.Lib
set_option maxRecDepth 20000 in
theorem addrOk_sizes (n l d : ByteArray) (h : addrOk n l d = true) : n.size ≤ 200 ∧ l.size ≤ 64 ∧ d.size ≤ 255 := by
  simp only [addrOk, Bool.and_eq_true, decide_eq_true_eq, Pl.domI] at h
  obtain ⟨_, h1, _, h2, _, h3, _⟩ := h
  exact ⟨h2, h1, by simpa using h3⟩
abbrev bx (n l d : ByteArray) : Obj := .cells #[.string n, .string l, .string d] 70
set_option maxRecDepth 20000 in
theorem box_cells (n l d : ByteArray) (w w2 : World) (hb : Below (w.alloc (bx n l d)).heap.size (w.alloc (bx n l d)) w2) :
    w2.cell? ⟨w.heap.size, 0, none⟩ = some (.string n) ∧ w2.cell? ⟨w.heap.size, 1, none⟩ = some (.string l) ∧ w2.cell? ⟨w.heap.size, 2, none⟩ = some (.string d) := by
  refine ⟨(hb.cell (p := ⟨w.heap.size, 0, none⟩) (by simp)).trans ?_, (hb.cell (p := ⟨w.heap.size, 1, none⟩) (by simp)).trans ?_, (hb.cell (p := ⟨w.heap.size, 2, none⟩) (by simp)).trans ?_⟩ <;> simp
def keyT (n l d : ByteArray) : ByteArray := if addrOk n l d then l ++ ⟨#[64]⟩ ++ ⟨(lower d.data.toList).toArray⟩ else ⟨#[]⟩
set_option maxRecDepth 20000 in
set_option maxHeartbeats 1000000 in
theorem implKey (n l d : ByteArray) (m : Int) (w : World) (hn : n.size ≤ 1100000) (hl : l.size ≤ 1100000) (hd : d.size ≤ 1100000) (hm : w.cell? ⟨0, 0, none⟩ = some (.int .i64 m)) :
    Calls Tryz.prog 39 #[box3 n l d] w fun e w' => e = .returned (.string (keyT n l d)) ∧ Below w.heap.size w w' := by
  have hA := implAddress n l d m (w.alloc (bx n l d)) hn hl hd (cell_alloc _ hm)
  have hbA : Below w.heap.size w (w.alloc (bx n l d)) := (Below.refl _ _).alloc (Nat.le_refl _) _
  cases hok : addrOk n l d
  · rw [keyT, hok]
    rw [hok] at hA
    clear hm
    go_enter Tryz.func39, Tryz.ntmps39
    go_wp2_with (go_at_call 61; go_must (refine hA.mono ?_; rintro e w2 ⟨rfl, hb2⟩; simp only [dcode]))
    go_ret
    exact ⟨rfl, hbA.trans (hb2.mono hbA.size)⟩
  · obtain ⟨s0, s1, s2⟩ := addrOk_sizes n l d hok
    rw [keyT, hok]
    rw [hok] at hA
    have hL := fun w => implLowered d w (by omega)
    have hxs : (ByteArray.mk (lower d.data.toList).toArray).size ≤ 255 := by
      show (lower d.data.toList).toArray.size ≤ 255
      simp [lower]; omega
    generalize ByteArray.mk (lower d.data.toList).toArray = x at *
    clear hm hok
    go_enter Tryz.func39, Tryz.ntmps39
    go_wp2_with (go_at_call 61; go_must (refine hA.mono ?_; rintro e w2 ⟨rfl, hb2⟩; simp only [dcode]; obtain ⟨c0, c1, c2⟩ := box_cells n l d w w2 hb2; have Hc := (show Hid (∀ w3, Below w2.heap.size w2 w3 → w3.cell? ⟨w.heap.size, 1, none⟩ = some (.string l)) from fun w3 h => (box_cells n l d w w3 (hb2.trans (h.mono hb2.size))).2.1)))
    go_region_with (go_at_call 29; (refine (hL _).mono ?_; rintro e w3 ⟨rfl, hb3⟩; have c3 := Hc.out w3 (((Below.refl w2.heap.size w2).drew).trans hb3)))
    all_goals
      go_wp2
      go_ret
      exact ⟨rfl, hbA.trans ((hb2.trans ((((Below.refl w2.heap.size w2).drew).trans hb3).mono hb2.size)).mono hbA.size)⟩
set_option maxRecDepth 20000 in
set_option maxHeartbeats 1000000 in
theorem specKey (n l d : ByteArray) (w : World) (hn : n.size ≤ 1100000) (hl : l.size ≤ 1100000) (hd : d.size ≤ 1100000) :
    Calls Tryz.prog 43 #[box3 n l d] w fun e w' => e = .returned (.string (keyT n l d)) ∧ Below w.heap.size w w' := by
  have hA := specAddress n l d (w.alloc (bx n l d)) hn hl hd
  have hbA : Below w.heap.size w (w.alloc (bx n l d)) := (Below.refl _ _).alloc (Nat.le_refl _) _
  cases hok : addrOk n l d
  · rw [keyT, hok]
    rw [hok] at hA
    go_enter Tryz.func43, Tryz.ntmps43
    go_wp2_with (go_at_call 42; go_must (refine hA.mono ?_; rintro e w2 ⟨rfl, hb2⟩; simp only [dcode]))
    go_ret
    exact ⟨rfl, hbA.trans (hb2.mono hbA.size)⟩
  · obtain ⟨s0, s1, s2⟩ := addrOk_sizes n l d hok
    rw [keyT, hok]
    rw [hok] at hA
    have hL := fun w => specLower d w (by omega)
    have hxs : (ByteArray.mk (lower d.data.toList).toArray).size ≤ 255 := by
      show (lower d.data.toList).toArray.size ≤ 255
      simp [lower]; omega
    generalize ByteArray.mk (lower d.data.toList).toArray = x at *
    clear hok
    go_enter Tryz.func43, Tryz.ntmps43
    go_wp2_with (go_at_call 42; go_must (refine hA.mono ?_; rintro e w2 ⟨rfl, hb2⟩; simp only [dcode]; obtain ⟨c0, c1, c2⟩ := box_cells n l d w w2 hb2; have Hc := (show Hid (∀ w3, Below w2.heap.size w2 w3 → w3.cell? ⟨w.heap.size, 1, none⟩ = some (.string l)) from fun w3 h => (box_cells n l d w w3 (hb2.trans (h.mono hb2.size))).2.1)))
    go_region_with (go_at_call 53; (refine (hL _).mono ?_; rintro e w3 ⟨rfl, hb3⟩; have c3 := Hc.out w3 (((Below.refl w2.heap.size w2).drew).trans hb3)))
    all_goals
      go_wp2
      go_ret
      exact ⟨rfl, hbA.trans ((hb2.trans ((((Below.refl w2.heap.size w2).drew).trans hb3).mono hb2.size)).mono hbA.size)⟩
end Go.Proofs.YtdjghniinnfncaaGreatDoor
namespace Go.Proofs.YtdjghniinnfncaaGreatDoor
open Go.RowKit Go.Lib
namespace Ky
def open_ (d : ByteArray) : Bool := d.data.toList[0]?.getD 0 == 91
def dok (d : ByteArray) : Bool := Pl.domI d.data.toList && !open_ d
set_option maxRecDepth 20000 in
theorem dom_pos (d : ByteArray) (h : Pl.domI d.data.toList = true) : 0 < d.size := by
  by_cases h0 : 0 < d.size
  · exact h0
  · have : d.data.toList = [] := List.length_eq_zero_iff.1 (by
      have : d.data.toList.length = d.size := by simp
      omega)
    rw [this] at h
    exact absurd h (by decide)
def low (d : ByteArray) : ByteArray := ⟨(lower d.data.toList).toArray⟩
set_option maxRecDepth 20000 in
theorem dok_size (d : ByteArray) (h : dok d = true) : d.size ≤ 255 := by
  simp only [dok, Bool.and_eq_true, Pl.domI, decide_eq_true_eq] at h
  have : d.data.toList.length = d.size := by simp
  omega
set_option maxRecDepth 20000 in
theorem ne_of_false (a b : ByteArray) (h : (a.toList == b.toList) = false) : (a.toList != b.toList) = true := by rw [bne, h]; rfl
set_option maxRecDepth 20000 in
theorem ne_of_true (a b : ByteArray) (h : (a.toList == b.toList) = true) : (a.toList != b.toList) = false := by rw [bne, h]; rfl
end Ky
set_option maxRecDepth 20000 in
theorem Ky.fst (d : ByteArray) (h : 0 < d.size) : Ky.open_ d = ((d[0].toNat : Int) == 91) := by
  have hl : 0 < d.data.toList.length := by simpa using h
  unfold Ky.open_
  rw [List.getElem?_eq_getElem hl, Option.getD_some, Bool.eq_iff_iff, beq_iff_eq, beq_iff_eq]
  constructor
  · intro e
    have e' : d[0] = 91 := e
    rw [e']
    rfl
  · intro e
    have e' : d[0].toNat = 91 := by omega
    exact UInt8.toNat_inj.1 e'
set_option maxRecDepth 20000 in
set_option maxHeartbeats 1000000 in
theorem implDomainName (d : ByteArray) (m : Int) (w : World) (hs : d.size ≤ 1100000) (hm : w.cell? ⟨0, 0, none⟩ = some (.int .i64 m)) :
    Calls Tryz.prog 38 #[.string d] w fun e w' => e = .returned (.bool (Ky.dok d)) ∧ Below w.heap.size w w' := by
  have hD := mkH (implDomain d m w hs hm)
  have hP := mkH (fun w => Tryz.strings_HasPrefix d ⟨#[91]⟩ w)
  have ho : hasPrefix d.data.toList [91] = Ky.open_ d := by
    unfold hasPrefix Ky.open_
    cases d.data.toList with
    | nil => rfl
    | cons c r =>
      rw [List.getElem?_cons_zero, Option.getD_some, List.isPrefixOf, List.isPrefixOf, Bool.and_true, Bool.eq_iff_iff, beq_iff_eq, beq_iff_eq]
      exact ⟨fun e => e.symm, fun e => e.symm⟩
  rw [show (ByteArray.mk #[91]).data.toList = [91] from rfl, ho] at hP
  clear ho hm
  unfold Ky.dok
  generalize Ky.open_ d = b2 at *
  generalize Pl.domI d.data.toList = b1 at *
  cases b1 <;> cases b2
  all_goals
    go_enter Tryz.func38, Tryz.ntmps38
    go_wp2_with first | (go_at_call 59; go_must (refine hD.out.mono ?_; rintro e w2 ⟨rfl, hb2⟩)) | (go_at_call 60; go_must (refine (hP.out _).mono ?_; rintro e w3 ⟨rfl, rfl⟩))
    go_ret
    exact ⟨rfl, hb2⟩
end Go.Proofs.YtdjghniinnfncaaGreatDoor
