
/- The walks of the two DomainFault. -/

/- The walks of the two AddressFault, and of the law's own helpers. -/

/- The walks of a reader of addresses: a box. -/

/- The walks of a reader of addresses: a box. -/
import Derived.Test.YtadoifnfgoonaaaGreatDoorPhraseImpl
import Derived.Test.YtadoifnfgoonaaaGreatDoorTokSaid
import Derived.Deep.QuietTactic
import Derived.Test.YtadoifnfgoonaaaGreatDoorAdRead7
namespace Go.Proofs.YtadoifnfgoonaaaGreatDoor
open Go.RowKit Go.Lib
set_option maxRecDepth 20000 in
theorem litB_cases (c : UInt8) : (c.toNat < 32 ∧ Pl.litB c = false) ∨ (32 ≤ c.toNat ∧ 126 < c.toNat ∧ Pl.litB c = false) ∨ (32 ≤ c.toNat ∧ c.toNat ≤ 126 ∧ ((c.toNat : Int) == 91) = true ∧ Pl.litB c = false) ∨
    (32 ≤ c.toNat ∧ c.toNat ≤ 126 ∧ ((c.toNat : Int) == 91) = false ∧ ((c.toNat : Int) == 93) = true ∧ Pl.litB c = false) ∨ (32 ≤ c.toNat ∧ c.toNat ≤ 126 ∧ ((c.toNat : Int) == 91) = false ∧ ((c.toNat : Int) == 93) = false ∧ ((c.toNat : Int) == 92) = true ∧ Pl.litB c = false) ∨
    (32 ≤ c.toNat ∧ c.toNat ≤ 126 ∧ ((c.toNat : Int) == 91) = false ∧ ((c.toNat : Int) == 93) = false ∧ ((c.toNat : Int) == 92) = false ∧ Pl.litB c = true) := by
  by_cases h1 : c.toNat < 32
  · exact .inl ⟨h1, by simp [Pl.litB]; omega⟩
  by_cases h2 : 126 < c.toNat
  · exact .inr (.inl ⟨by omega, h2, by simp [Pl.litB]; omega⟩)
  cases h3 : ((c.toNat : Int) == 91)
  · have n3 := Pl.byte_ne c 91 _ rfl h3
    cases h4 : ((c.toNat : Int) == 93)
    · have n4 := Pl.byte_ne c 93 _ rfl h4
      cases h5 : ((c.toNat : Int) == 92)
      · have n5 := Pl.byte_ne c 92 _ rfl h5
        exact .inr (.inr (.inr (.inr (.inr ⟨by omega, by omega, rfl, rfl, rfl, by simp [Pl.litB, n3, n4, n5]; omega⟩))))
      · exact .inr (.inr (.inr (.inr (.inl ⟨by omega, by omega, rfl, rfl, rfl, by rw [Pl.byte_eq c 92 _ rfl h5]; decide⟩))))
    · exact .inr (.inr (.inr (.inl ⟨by omega, by omega, rfl, rfl, by rw [Pl.byte_eq c 93 _ rfl h4]; decide⟩)))
  · exact .inr (.inr (.inl ⟨by omega, by omega, rfl, by rw [Pl.byte_eq c 91 _ rfl h3]; decide⟩))
set_option maxRecDepth 20000 in
theorem implLitByte (c : UInt8) (w : World) : Calls Tryz.prog 112 #[.int .u8 (c.toNat : Int)] w fun e w' => e = .returned (.bool (Pl.litB c)) ∧ w = w' := by
  have h8 : c.toNat < 256 := UInt8.toNat_lt _
  rcases litB_cases c with ⟨h, hb⟩ | ⟨h, h1, hb⟩ | ⟨h, h1, h2, hb⟩ | ⟨h, h1, h2, h3, hb⟩ | ⟨h, h1, h2, h3, h4, hb⟩ | ⟨h, h1, h2, h3, h4, hb⟩ <;> rw [hb] <;> clear hb
  all_goals
    try have g2 : ((c.toNat : Int) != 91) = !((c.toNat : Int) == 91) := rfl
    try have g3 : ((c.toNat : Int) != 93) = !((c.toNat : Int) == 93) := rfl
    try have g4 : ((c.toNat : Int) != 92) = !((c.toNat : Int) == 92) := rfl
    try rw [h2] at g2
    try rw [h3] at g3
    try rw [h4] at g4
    try rw [Bool.not_true] at g2
    try rw [Bool.not_false] at g2
    try rw [Bool.not_true] at g3
    try rw [Bool.not_false] at g3
    try rw [Bool.not_true] at g4
    try rw [Bool.not_false] at g4
    go_enter Tryz.func112, Tryz.ntmps112
    go_wp2
    go_ret
    first | exact ⟨rfl, rfl⟩ | exact ⟨congrArg (fun b => Ending.returned (.bool b)) (by simp; omega), rfl⟩ | exact ⟨congrArg (fun b => Ending.returned (.bool b)) (by first | exact g2 | exact g3 | exact g4), rfl⟩
set_option maxRecDepth 20000 in
theorem kindLit : Kind 112 Pl.litB := ⟨Go.Proofs.enters_of Tryz.func112 (by kernel_rfl) rfl, implLitByte⟩
set_option maxRecDepth 20000 in
theorem trimP_len (l p : List UInt8) : (trimPrefix l p).length ≤ l.length := by
  unfold trimPrefix
  split
  · simp
  · exact Nat.le_refl _
set_option maxRecDepth 20000 in
theorem trimS_len (l p : List UInt8) : (trimSuffix l p).length ≤ l.length := by
  unfold trimSuffix
  split
  · simp
  · exact Nat.le_refl _
set_option maxRecDepth 20000 in
set_option maxHeartbeats 400000 in
theorem implIsLit (s : ByteArray) (w : World) (hs : s.size ≤ 100000) :
    Calls Tryz.prog 93 #[.string s] w fun e w' => e = .returned (.bool (Pl.isLit s.data.toList)) ∧ w' = w := by
  have hp := Tryz.strings_CutPrefix s ⟨#[91]⟩ w
  have hl1 : (trimPrefix s.data.toList [91]).length ≤ 100000 := Nat.le_trans (trimP_len _ _) (by simpa using hs)
  have hl2 : (trimSuffix (trimPrefix s.data.toList [91]) [93]).length ≤ 100000 := Nat.le_trans (trimS_len _ _) hl1
  have hq := Tryz.strings_CutSuffix ⟨(trimPrefix s.data.toList [91]).toArray⟩ ⟨#[93]⟩ w (by show (trimPrefix s.data.toList [91]).toArray.size ≤ _; simp; omega)
  have ha := implAllOf kindLit ⟨(trimSuffix (trimPrefix s.data.toList [91]) [93]).toArray⟩ w (by show (trimSuffix (trimPrefix s.data.toList [91]) [93]).toArray.size ≤ _; simp; omega)
  unfold Pl.isLit
  simp only at hp
  simp only at hq
  simp only at ha
  clear hl1 hl2
  generalize trimSuffix (trimPrefix s.data.toList [91]) [93] = q at *
  generalize trimPrefix s.data.toList [91] = p at *
  generalize hasPrefix s.data.toList [91] = b1 at *
  generalize hasSuffix p [93] = b2 at *
  generalize q.all Pl.litB = b3 at *
  cases b1 <;> cases b2
  all_goals
    go_enter Tryz.func93, Tryz.ntmps93
    go_wp2_with first | (go_at_call 110; go_must (refine hp.mono ?_; rintro e w2 ⟨rfl, rfl⟩)) | (go_at_call 111; go_must (refine hq.mono ?_; rintro e w2 ⟨rfl, rfl⟩)) | (go_at_call 62; go_must (refine ha.mono ?_; rintro e w2 ⟨rfl, rfl⟩))
    go_ret
    exact ⟨rfl, rfl⟩
def dcode (b : Bool) : Int := if b then 0 else 1
set_option maxRecDepth 20000 in
set_option maxHeartbeats 400000 in
theorem implDomain (s : ByteArray) (m : Int) (w : World) (hs : s.size ≤ 1100000) (hm : w.cell? ⟨1, 0, none⟩ = some (.int .i64 m)) :
    Calls Tryz.prog 64 #[.string s] w fun e w' => e = .returned (.int .i64 (dcode (Pl.domI s.data.toList))) ∧ Below w.heap.size w w' := by
  have hll : s.data.toList.length = s.size := by simp
  by_cases hn : s.size ≤ 255
  · have ha := implAreAtoms 46 Pl.atom_point s m w (by omega) hm
    have hb := fun w => implIsLit s w (by omega)
    rw [Pl.domI, decide_eq_true (by omega), Bool.true_and]
    generalize Pl.scan 46 false s.data.toList = b1 at ha ⊢
    generalize Pl.isLit s.data.toList = b2 at hb ⊢
    clear hm
    cases b1 <;> cases b2
    all_goals
      go_enter Tryz.func64, Tryz.ntmps64
      go_wp2_with first | (go_at_call 35; go_must (refine ha.mono ?_; rintro e w2 ⟨rfl, hb2⟩)) | (go_at_call 93; go_must (refine (hb _).mono ?_; rintro e w3 ⟨rfl, rfl⟩))
      go_ret
      exact ⟨rfl, hb2⟩
  · rw [Pl.domI, decide_eq_false (by omega), Bool.false_and]
    clear hm
    go_enter Tryz.func64, Tryz.ntmps64
    go_wp2
    go_ret
    exact ⟨rfl, Below.refl _ _⟩
set_option maxRecDepth 20000 in
set_option maxHeartbeats 1000000 in
theorem specDomain (s : ByteArray) (w : World) (hs : s.size ≤ 1100000) :
    Calls Tryz.prog 46 #[.string s] w fun e w' => e = .returned (.int .i64 (dcode (Pl.domI s.data.toList))) ∧ Below w.heap.size w w' := by
  have hll : s.data.toList.length = s.size := by simp
  by_cases h0 : s.size < 1
  · rw [show Pl.domI s.data.toList = false from by
      have : s.data.toList = [] := List.length_eq_zero_iff.1 (by omega)
      rw [this]; rfl]
    go_enter Tryz.func46, Tryz.ntmps46
    go_wp2
    go_ret
    exact ⟨rfl, Below.refl _ _⟩
  by_cases hn : 255 < s.size
  · rw [Pl.domI, decide_eq_false (by omega), Bool.false_and]
    go_enter Tryz.func46, Tryz.ntmps46
    go_wp2
    go_ret
    exact ⟨rfl, Below.refl _ _⟩
  have h0' : 0 < s.size := Nat.lt_of_not_le (fun h => h0 (Nat.lt_of_le_of_lt h Nat.one_pos))
  have hcons : s.data.toList = s[0]'h0' :: s.data.toList.drop 1 := by
    have := Pl.drop_cons s.data.toList 0 (by omega)
    rw [List.drop_zero] at this
    exact this
  have h8 : (s[0]'h0').toNat < 256 := UInt8.toNat_lt _
  cases h91 : ((((s[0]'h0').toNat : Nat) : Int) == 91)
  · have hne : ((((s[0]'h0').toNat : Nat) : Int) != 91) = true := by rw [bne, h91]; rfl
    have ha := specAtoms 46 46 rfl s w hs
    rw [Pl.dom_atoms _ _ _ hcons (Pl.byte_ne _ 91 _ rfl h91) (by omega)]
    generalize Pl.scan 46 false s.data.toList = b1 at ha ⊢
    clear hcons hll
    cases b1
    all_goals
      go_enter Tryz.func46, Tryz.ntmps46
      go_wp2_with (go_at_call 47; go_must (refine ha.mono ?_; rintro e w2 ⟨rfl, hb2⟩))
      go_ret
      exact ⟨rfl, hb2⟩
  · have hne : ((((s[0]'h0').toNat : Nat) : Int) != 91) = false := by rw [bne, h91]; rfl
    have hc : s.data.toList = 91 :: s.data.toList.drop 1 := by
      rw [← Pl.byte_eq _ 91 _ rfl h91]; exact hcons
    rw [Pl.dom_lit _ _ hc (by omega)]
    by_cases h2 : s.size < 2
    · rw [Pl.lit_short _ _ hc (by omega)]
      clear hcons hc hll
      go_enter Tryz.func46, Tryz.ntmps46
      go_wp2
      go_ret
      exact ⟨rfl, Below.refl _ _⟩
    have hl' : s.size - 1 < s.size := Nat.sub_lt h0' Nat.one_pos
    have hidx : ((s.size : Int) - 1).toNat = s.size - 1 := by omega
    have h8' : (s[s.size - 1]'hl').toNat < 256 := UInt8.toNat_lt _
    have hlast : s.data.toList[s.data.toList.length - 1]'(by omega) = s[s.size - 1]'hl' := by simp; rfl
    cases h93 : ((((s[s.size - 1]'hl').toNat : Nat) : Int) == 93)
    · rw [Pl.lit_open _ _ hc (by omega) (by rw [hlast]; exact Pl.byte_ne _ 93 _ rfl h93)]
      have hn3 : ((((s[s.size - 1]'hl').toNat : Nat) : Int) != 93) = true := by rw [bne, h93]; rfl
      clear hcons hc hll hlast
      go_enter Tryz.func46, Tryz.ntmps46
      go_wp2
      go_ret
      exact ⟨rfl, Below.refl _ _⟩
    · rw [Pl.lit_mid _ _ hc (by omega) (by rw [hlast]; exact Pl.byte_eq _ 93 _ rfl h93), Pl.mid]
      have hn3 : ((((s[s.size - 1]'hl').toNat : Nat) : Int) != 93) = false := by rw [bne, h93]; rfl
      obtain ⟨A, hA⟩ : ∃ A, ((s.data.toList.take (s.data.toList.length - 1)).drop 1).all Pl.litB = A := ⟨_, rfl⟩
      rw [hA]
      have HA : Hid (((s.data.toList.take (s.data.toList.length - 1)).drop 1).all Pl.litB = A) := hA
      clear hcons hc hll hlast hA
      go_enter Tryz.func46, Tryz.ntmps46
      go_wp2
      clear hn3 h93 h91 hne h8 h8'
      go_loopw [3] (fun i wr => ∃ k : Nat, 1 ≤ k ∧ k ≤ s.size - 1 ∧ i = .int .i64 k ∧ Hid (((s.data.toList.take (s.data.toList.length - 1)).drop k).all Pl.litB = A) ∧ wr = w) (fun i _ => s.size - (Lib.intOf i).toNat)
      case atStart => exact ⟨1, Nat.le_refl _, by omega, rfl, HA, rfl⟩
      case round =>
        clear HA
        obtain ⟨k, hk1, hk, rfl, hp, rfl⟩ := hrel
        by_cases hlt : k < s.size - 1
        · have h8 : (s[k]'(by omega)).toNat < 256 := UInt8.toNat_lt _
          have hst : Hid (((s.data.toList.take (s.data.toList.length - 1)).drop k).all Pl.litB = (Pl.litB (s[k]'(by omega)) && ((s.data.toList.take (s.data.toList.length - 1)).drop (k + 1)).all Pl.litB)) := Pl.mid_step s.data.toList k (by simp; omega)
          have bad : Pl.litB (s[k]'(by omega)) = false → Hid (A = false) := by
            intro h
            have := hst.out
            rw [h, Bool.false_and, hp.out] at this
            exact this
          rcases litB_cases (s[k]'(by omega)) with ⟨h, hb⟩ | ⟨h, h1, hb⟩ | ⟨h, h1, h2, hb⟩ | ⟨h, h1, h2, h3, hb⟩ | ⟨h, h1, h2, h3, h4, hb⟩ | ⟨h, h1, h2, h3, h4, hb⟩
          iterate 5
            have hB := bad hb
            clear bad hb hst hp
            go_wp2
            go_ret
            exact ⟨by rw [hB.out]; rfl, Below.refl _ _⟩
          · have hg : Hid (((s.data.toList.take (s.data.toList.length - 1)).drop (k + 1)).all Pl.litB = A) := show _ = _ from by
              have := hst.out
              rw [hb, Bool.true_and, hp.out] at this
              exact this.symm
            clear bad hb hst hp
            go_wp2
            go_roundw
            case rel => exact ⟨k + 1, by omega, by omega, by go_num, hg, trivial⟩
            case measure => simp [Lib.intOf]; omega
        · have H0 : Hid (A = true) := show _ = _ from by rw [← hp.out]; exact Pl.mid_done _ k (by simp; omega)
          clear hp
          go_wp2
          go_ret
          exact ⟨by rw [H0.out]; rfl, Below.refl _ _⟩
end Go.Proofs.YtadoifnfgoonaaaGreatDoor
namespace Go.Proofs.YtadoifnfgoonaaaGreatDoor
open Go.RowKit Go.Lib
abbrev box3 (n l d : ByteArray) : Value := .agg #[.string n, .string l, .string d]
def addrOk (n l d : ByteArray) : Bool := decide (1 ≤ l.size) && (decide (l.size ≤ 64) && (l.data.toList.all Pl.tb && (decide (n.size ≤ 200) && (n.data.toList.all Pl.tb && Pl.domI d.data.toList))))
set_option maxRecDepth 20000 in
theorem implIsName (s : ByteArray) (w : World) (hs : s.size ≤ 1100000) :
    Calls Tryz.prog 44 #[.string s] w fun e w' => e = .returned (.bool (decide (s.size ≤ 200) && s.data.toList.all Pl.tb)) ∧ w = w' := by
  by_cases hn : s.size ≤ 200
  · have ha := implAllOf kindText s w hs
    rw [decide_eq_true hn, Bool.true_and]
    generalize s.data.toList.all Pl.tb = b at *
    go_enter Tryz.func44, Tryz.ntmps44
    go_wp2_with (go_at_call 62; go_must (refine ha.mono ?_; rintro e w2 ⟨rfl, rfl⟩))
    go_ret
    exact ⟨rfl, rfl⟩
  · rw [decide_eq_false hn, Bool.false_and]
    go_enter Tryz.func44, Tryz.ntmps44
    go_wp2
    go_ret
    exact ⟨rfl, rfl⟩
set_option maxRecDepth 20000 in
theorem specIsName (s : ByteArray) (w : World) (hs : s.size ≤ 1100000) :
    Calls Tryz.prog 26 #[.string s] w fun e w' => e = .returned (.bool (decide (s.size ≤ 200) && s.data.toList.all Pl.tb)) ∧ w = w' := by
  by_cases hn : s.size ≤ 200
  · have ha := specClean s w hs
    rw [decide_eq_true hn, Bool.true_and]
    generalize s.data.toList.all Pl.tb = b at *
    go_enter Tryz.func26, Tryz.ntmps26
    go_wp2_with (go_at_call 45; go_must (refine ha.mono ?_; rintro e w2 ⟨rfl, rfl⟩))
    go_ret
    exact ⟨rfl, rfl⟩
  · rw [decide_eq_false hn, Bool.false_and]
    go_enter Tryz.func26, Tryz.ntmps26
    go_wp2
    go_ret
    exact ⟨rfl, rfl⟩
set_option maxRecDepth 20000 in
theorem isEmpty_of (q : ByteArray) (h0 : q.size = 0) : q.toList.isEmpty = true := by
  rw [ByteArray.toList_eq, List.isEmpty_iff]
  exact List.length_eq_zero_iff.1 (by rw [Pl.len_list]; exact h0)
set_option maxRecDepth 20000 in
theorem isEmpty_ne (q : ByteArray) (h0 : ¬ q.size = 0) : q.toList.isEmpty = false := by
  rw [ByteArray.toList_eq, List.isEmpty_eq_false_iff]
  intro e
  exact h0 (by rw [← Pl.len_list, e]; rfl)
set_option maxRecDepth 20000 in
theorem cell_alloc {w : World} {v : Value} {a : Addr} (b : Obj) (h : w.cell? a = some v) : (w.alloc b).cell? a = some v := by
  have hb : Below w.heap.size w (w.alloc b) := (Below.refl _ _).alloc (Nat.le_refl _) _
  exact (hb.cell (bcell_lt h)).trans h
set_option maxRecDepth 20000 in
set_option maxHeartbeats 1000000 in
theorem implAddress (n l d : ByteArray) (m : Int) (w : World) (hn : n.size ≤ 1100000) (hl : l.size ≤ 1100000) (hd : d.size ≤ 1100000) (hm : w.cell? ⟨1, 0, none⟩ = some (.int .i64 m)) :
    Calls Tryz.prog 34 #[box3 n l d] w fun e w' => e = .returned (.int .i64 (dcode (addrOk n l d))) ∧ Below w.heap.size w w' := by
  have hN := fun w => implIsName n w hn
  have hA := fun w => implAllOf kindText l w hl
  have hD := fun w hm => implDomain d m w hd hm
  have hm' := fun b => cell_alloc b hm
  have hbA : ∀ b, Below w.heap.size w (w.alloc b) := fun b => (Below.refl _ _).alloc (Nat.le_refl _) _
  unfold addrOk
  generalize Pl.domI d.data.toList = b3 at *
  by_cases h0 : l.size = 0
  · have hE := isEmpty_of l h0
    rw [decide_eq_false (by omega), Bool.false_and]
    clear hD hm hm'
    go_enter Tryz.func34, Tryz.ntmps34
    go_wp2
    go_ret
    exact ⟨rfl, hbA _⟩
  have hE := isEmpty_ne l h0
  rw [decide_eq_true (by omega), Bool.true_and]
  by_cases h1 : 64 < l.size
  · rw [decide_eq_false (by omega), Bool.false_and]
    clear hD hm hm'
    go_enter Tryz.func34, Tryz.ntmps34
    go_wp2
    go_ret
    exact ⟨rfl, hbA _⟩
  rw [decide_eq_true (by omega), Bool.true_and]
  generalize l.data.toList.all Pl.tb = b1 at *
  rw [← Bool.and_assoc (decide (n.size ≤ 200))]
  generalize (decide (n.size ≤ 200) && n.data.toList.all Pl.tb) = b2 at *
  have HD := (show Hid _ from hD)
  have HM := (show Hid _ from hm')
  clear hD hm hm'
  cases b1
  · go_enter Tryz.func34, Tryz.ntmps34
    go_wp2_with (go_at_call 62; go_must (refine (hA _).mono ?_; rintro e w2 ⟨rfl, rfl⟩))
    go_ret
    exact ⟨rfl, hbA _⟩
  cases b2
  · go_enter Tryz.func34, Tryz.ntmps34
    go_wp2_with first | (go_at_call 62; go_must (refine (hA _).mono ?_; rintro e w2 ⟨rfl, rfl⟩)) | (go_at_call 44; go_must (refine (hN _).mono ?_; rintro e w2 ⟨rfl, rfl⟩))
    go_ret
    exact ⟨rfl, hbA _⟩
  · go_enter Tryz.func34, Tryz.ntmps34
    go_wp2_with first | (go_at_call 62; go_must (refine (hA _).mono ?_; rintro e w2 ⟨rfl, rfl⟩)) | (go_at_call 44; go_must (refine (hN _).mono ?_; rintro e w2 ⟨rfl, rfl⟩)) | (go_at_call 64; go_must (refine (HD.out _ (HM.out _)).mono ?_; rintro e w3 ⟨rfl, hb3⟩))
    go_ret
    exact ⟨rfl, (hbA _).trans (hb3.mono (hbA _).size)⟩
set_option maxRecDepth 20000 in
set_option maxHeartbeats 1000000 in
theorem specAddress (n l d : ByteArray) (w : World) (hn : n.size ≤ 1100000) (hl : l.size ≤ 1100000) (hd : d.size ≤ 1100000) :
    Calls Tryz.prog 23 #[box3 n l d] w fun e w' => e = .returned (.int .i64 (dcode (addrOk n l d))) ∧ Below w.heap.size w w' := by
  have hN := fun w => specIsName n w hn
  have hA := fun w => specClean l w hl
  have hD := fun w => specDomain d w hd
  have hbA : ∀ b, Below w.heap.size w (w.alloc b) := fun b => (Below.refl _ _).alloc (Nat.le_refl _) _
  unfold addrOk
  generalize Pl.domI d.data.toList = b3 at *
  by_cases h0 : l.size = 0
  · rw [decide_eq_false (by omega), Bool.false_and]
    go_enter Tryz.func23, Tryz.ntmps23
    go_wp2
    go_ret
    exact ⟨rfl, hbA _⟩
  rw [decide_eq_true (by omega), Bool.true_and]
  by_cases h1 : 64 < l.size
  · rw [decide_eq_false (by omega), Bool.false_and]
    go_enter Tryz.func23, Tryz.ntmps23
    go_wp2
    go_ret
    exact ⟨rfl, hbA _⟩
  rw [decide_eq_true (by omega), Bool.true_and]
  generalize l.data.toList.all Pl.tb = b1 at *
  rw [← Bool.and_assoc (decide (n.size ≤ 200))]
  generalize (decide (n.size ≤ 200) && n.data.toList.all Pl.tb) = b2 at *
  cases b1
  · go_enter Tryz.func23, Tryz.ntmps23
    go_wp2_with (go_at_call 45; go_must (refine (hA _).mono ?_; rintro e w2 ⟨rfl, rfl⟩))
    go_ret
    exact ⟨rfl, hbA _⟩
  have hcell : ∀ (b : TypeId) (w3 : World), Below (w.alloc (.cells #[.string n, .string l, .string d] b)).heap.size (w.alloc (.cells #[.string n, .string l, .string d] b)) w3 → w3.cell? ⟨w.heap.size, 0, none⟩ = some (.string n) := by
    intro b w3 hb
    refine (hb.cell (p := ⟨w.heap.size, 0, none⟩) (by simp)).trans ?_
    simp
  cases b3
  all_goals
    cases b2
    all_goals
      go_enter Tryz.func23, Tryz.ntmps23
      go_wp2_with first | (go_at_call 45; go_must (refine (hA _).mono ?_; rintro e w2 ⟨rfl, rfl⟩)) | (go_at_call 46; go_must (refine (hD _).mono ?_; rintro e w3 ⟨rfl, hb3⟩; have hc3 := hcell _ _ hb3; simp only [dcode])) | (go_at_call 26; go_must (refine (hN _).mono ?_; rintro e w4 ⟨rfl, rfl⟩))
      go_ret
      exact ⟨rfl, (hbA _).trans (hb3.mono (hbA _).size)⟩
end Go.Proofs.YtadoifnfgoonaaaGreatDoor
namespace Go.Proofs.YtadoifnfgoonaaaGreatDoor
open Go.RowKit Go.Lib
set_option maxRecDepth 20000 in
set_option maxHeartbeats 8000000 in
/-- note: no comment stands here. -/
theorem rsNote {B g k : Nat} {T : List Tk} {s : ByteArray} {q : Nat × Nat} {L : List (Nat × ByteArray)} {w : World} (hT : Ts T s) (h : Rs B T g s q L k w) :
    Calls Tryz.prog 120 #[scp g] w fun e w' => e = .returned (.string ⟨#[]⟩) ∧ Below w.heap.size w w' := by
  obtain ⟨n, h1, h2, h3⟩ := h
  obtain ⟨kd, x, hx⟩ : ∃ kd x, hdT (Kt T n) = (kd, x) := ⟨_, _, rfl⟩
  obtain ⟨a, hNx⟩ := kt_at hT h2 kd x hx
  have hk4 : ((kd : Int) != 4) = true := by
    rcases hNx.or with ⟨-, hg, -⟩ | ⟨-, hg⟩
    · have h5 := hT.k _ (List.mem_of_getElem? hg)
      have h6 : kd ≠ 4 := h5
      simp
      omega
    · have : kd = 0 := congrArg Tk.kind hg
      subst this
      rfl
  have hbd : Below w.heap.size w w.drew := (Below.refl _ _).drew
  have hgl := h3.glt
  have HR := mkHid (h3.below hbd)
  have HS0 : Hid (w.drew.cell? ⟨g, 4, none⟩ = some (.int .i64 (n : Int))) := mkHid (by
    obtain ⟨d1, -, -⟩ := HR.out
    exact d1.cells.2.2.1)
  have HS : Hid (∀ W, Below w.drew.heap.size w.drew W → W.cell? ⟨g, 4, none⟩ = some (.int .i64 (n : Int))) := mkHid (fun W hb => (hb.cell (p := ⟨g, 4, none⟩) hgl).trans HS0.out)
  have cT := mkHid (fun (W : World) (hb : Below w.drew.heap.size w.drew W) => rdTokenAt B g n T s q k ⟨kd, x, a⟩ W (HR.out.below hb) hT.l hT.z hNx)
  rw [show tkV ⟨kd, x, a⟩ = .agg #[.int .i64 (kd : Int), .string x, .int .i64 (a : Int)] from rfl] at cT
  have Hbd := mkHid hbd
  obtain ⟨X, hX⟩ : ∃ X, X = w.drew := ⟨_, rfl⟩
  rw [← hX] at HS0 HS cT Hbd
  have HXe := mkHid hX
  have hXs : X.heap.size = w.heap.size := by rw [hX]; rfl
  have HXs := mkHid hXs
  clear h1 h3 hx hNx hbd HR hX hXs
  go_enter Tryz.func120, Tryz.ntmps120
  go_wp2
  refine wp_region_held (S := fun w' => w'.cell? ⟨g, 4, none⟩ = some (.int .i64 (n : Int))) (by kernel_rfl) ?_
  rw [show ({ w with drawn := w.drawn + 1 } : World) = X from HXe.out.symm]
  refine wpAnyH_take (i := 0) (v := scp g) rfl (by kernel_rfl) (by kernel_rfl) (by kernel_rfl) (fun _ _ _ h => h) (Or.inl ⟨by rfl, ?_⟩) HS0.out ?_
  · intro w s0
    go_simp
    all_goals first | done | (intro h; exfalso; omega) | omega
  go_simp
  refine wpAnyH_take (i := 1) (v := scp g) rfl (by kernel_rfl) (by kernel_rfl) (by kernel_rfl) (fun _ _ _ h => h) (Or.inl ⟨by rfl, ?_⟩) HS0.out ?_
  · intro w s0
    go_simp
    all_goals first | done | (intro h; exfalso; omega) | omega
  go_simp
  refine wpAnyH_take (i := 2) (v := scp g) rfl (by kernel_rfl) (by kernel_rfl) (by kernel_rfl) (fun _ _ _ h => h) (Or.inl ⟨by rfl, ?_⟩) HS0.out ?_
  · intro w s0
    go_simp
    all_goals first | done | (intro h; exfalso; omega) | omega
  go_simp
  refine wpAnyH_take (i := 3) (v := scp g) rfl (by kernel_rfl) (by kernel_rfl) (by kernel_rfl) (fun _ _ _ h => h) (Or.inl ⟨by rfl, ?_⟩) HS0.out ?_
  · intro w s0
    go_simp
    all_goals first | done | (intro h; exfalso; omega) | omega
  go_simp
  refine wpAnyH_take (i := 4) (v := scp g) rfl (by kernel_rfl) (by kernel_rfl) (by kernel_rfl) (fun _ _ _ h => h) (Or.inl ⟨by rfl, ?_⟩) HS0.out ?_
  · intro w s0
    go_simp
    all_goals first | done | (intro h; exfalso; omega) | omega
  go_simp
  refine wpAnyH_take (i := 5) (v := scp g) rfl (by kernel_rfl) (by kernel_rfl) (by kernel_rfl) (fun _ _ _ h => h) (Or.inl ⟨by rfl, ?_⟩) HS0.out ?_
  · intro w s0
    go_simp
    all_goals first | done | (intro h; exfalso; omega) | omega
  go_simp
  refine wpAnyH_take (i := 6) (v := .pointer (some ⟨g, 4, none⟩)) rfl (by kernel_rfl) (by kernel_rfl) (by kernel_rfl) (fun _ _ _ h => h) (Or.inl ⟨by rfl, ?_⟩) HS0.out ?_
  · intro w s0
    go_simp
    all_goals first | done | (intro h; exfalso; omega) | omega
  go_simp
  refine wpAnyH_take (i := 7) (v := .int .i64 (n : Int)) rfl (by kernel_rfl) (by kernel_rfl) (by kernel_rfl) (fun _ _ _ h => h) (Or.inl ⟨by rfl, ?_⟩) HS0.out ?_
  · intro w s0
    go_simp
    all_goals first | done | (intro h; exfalso; omega) | omega
  go_simp
  refine wpAnyH_all (rs := [8, 9]) (by kernel_rfl) (by simp) ?_
  intro j hj
  simp only [List.mem_cons, List.not_mem_nil, or_false] at hj
  rcases hj with rfl | rfl
  · refine wpOp_step rfl (fun K hK => ?_)
    go_simp
    refine (cT.out X (Below.refl _ _)).mono ?_
    rintro e w1 ⟨rfl, hb1⟩
    refine hK _ _ ⟨HS.out w1 hb1, ?_⟩
    clear hK K
    go_simp
    refine wpAnyH_all (rs := [9]) (by kernel_rfl) (by simp) ?_
    intro j hj
    simp only [List.mem_cons, List.not_mem_nil, or_false] at hj
    subst hj
    refine wpOp_step rfl (fun K hK => ?_)
    go_simp
    have hbA : Below w1.heap.size w1 (w1.alloc (.cells #[.int .i64 0, .string ⟨#[]⟩, .int .i64 0] 107)) := (Below.refl _ _).alloc (Nat.le_refl _) _
    have hb2 := hb1.trans (hbA.mono hb1.size)
    have hA : (w1.alloc (.cells #[.int .i64 0, .string ⟨#[]⟩, .int .i64 0] 107)).heap[w1.heap.size]? = some (.cells #[.int .i64 0, .string ⟨#[]⟩, .int .i64 0] 107 (0, 0)) := hp_alloc _ _
    refine hK _ _ ⟨HS.out _ hb2, ?_⟩
    clear hK K
    go_simp
    refine wpAnyH_all (rs := [10]) (by kernel_rfl) (by simp) ?_
    intro j hj
    simp only [List.mem_cons, List.not_mem_nil, or_false] at hj
    subst hj
    refine wpOp_step rfl (fun K hK => ?_)
    refine wp_store_row 107 _ _ rfl w1.heap.size #[.int .i64 (kd : Int), .string x, .int .i64 (a : Int)] rfl rfl 107 _ hA (by kernel_rfl) rfl (by simp [Value.oneCell']) ?_
    have hb3 : Below X.heap.size X ((w1.alloc (.cells #[.int .i64 0, .string ⟨#[]⟩, .int .i64 0] 107)).setRow w1.heap.size #[.int .i64 (kd : Int), .string x, .int .i64 (a : Int)]) := hb2.grown (grown_setRow _ _ _) hb2.size (fun j hj => by cases hj; exact hb1.size)
    refine hK _ _ ⟨HS.out _ hb3, ?_⟩
    clear hK K
    go_simp
    have hV := setRow_heap (w1.alloc (.cells #[.int .i64 0, .string ⟨#[]⟩, .int .i64 0] 107)) w1.heap.size _ #[.int .i64 (kd : Int), .string x, .int .i64 (a : Int)] 107 (0, 0) hA
    have hbV : Below w.heap.size w ((w1.alloc (.cells #[.int .i64 0, .string ⟨#[]⟩, .int .i64 0] 107)).setRow w1.heap.size #[.int .i64 (kd : Int), .string x, .int .i64 (a : Int)]) := Hbd.out.trans (hb3.mono Hbd.out.size)
    generalize (w1.alloc (.cells #[.int .i64 0, .string ⟨#[]⟩, .int .i64 0] 107)).setRow w1.heap.size #[.int .i64 (kd : Int), .string x, .int .i64 (a : Int)] = V at hV hbV ⊢
    clear hb1 hbA hb2 hA hb3
    refine wpAnyH_done (by kernel_rfl) ?_ _
    obtain ⟨c0, -, -⟩ := tok_cellsA hV
    have Hb9 := mkHid hbV
    clear hV hbV
    go_wp2
    go_ret
    exact ⟨rfl, Hb9.out⟩
  · refine wpOp_step rfl (fun K hK => ?_)
    go_simp
    have hbA : Below X.heap.size X (X.alloc (.cells #[.int .i64 0, .string ⟨#[]⟩, .int .i64 0] 107)) := (Below.refl _ _).alloc (Nat.le_refl _) _
    have hA : (X.alloc (.cells #[.int .i64 0, .string ⟨#[]⟩, .int .i64 0] 107)).heap[X.heap.size]? = some (.cells #[.int .i64 0, .string ⟨#[]⟩, .int .i64 0] 107 (0, 0)) := hp_alloc _ _
    refine hK _ _ ⟨HS.out _ hbA, ?_⟩
    clear hK K
    go_simp
    refine wpAnyH_all (rs := [8]) (by kernel_rfl) (by simp) ?_
    intro j hj
    simp only [List.mem_cons, List.not_mem_nil, or_false] at hj
    subst hj
    refine wpOp_step rfl (fun K hK => ?_)
    go_simp
    refine (cT.out _ hbA).mono ?_
    rintro e w1 ⟨rfl, hb1⟩
    have hb2 := hbA.trans (hb1.mono hbA.size)
    have hA1 := (hb1.block _ (hp_lt hA)).trans hA
    refine hK _ _ ⟨HS.out _ hb2, ?_⟩
    clear hK K
    go_simp
    refine wpAnyH_all (rs := [10]) (by kernel_rfl) (by simp) ?_
    intro j hj
    simp only [List.mem_cons, List.not_mem_nil, or_false] at hj
    subst hj
    refine wpOp_step rfl (fun K hK => ?_)
    refine wp_store_row 107 _ _ rfl X.heap.size #[.int .i64 (kd : Int), .string x, .int .i64 (a : Int)] rfl rfl 107 _ hA1 (by kernel_rfl) rfl (by simp [Value.oneCell']) ?_
    have hb3 : Below X.heap.size X (w1.setRow X.heap.size #[.int .i64 (kd : Int), .string x, .int .i64 (a : Int)]) := hb2.grown (grown_setRow _ _ _) hb2.size (fun j hj => by cases hj; exact Nat.le_refl _)
    refine hK _ _ ⟨HS.out _ hb3, ?_⟩
    clear hK K
    go_simp
    have hV := setRow_heap w1 X.heap.size _ #[.int .i64 (kd : Int), .string x, .int .i64 (a : Int)] 107 (0, 0) hA1
    have hbV : Below w.heap.size w (w1.setRow X.heap.size #[.int .i64 (kd : Int), .string x, .int .i64 (a : Int)]) := Hbd.out.trans (hb3.mono Hbd.out.size)
    generalize w1.setRow X.heap.size #[.int .i64 (kd : Int), .string x, .int .i64 (a : Int)] = V at hV hbV ⊢
    clear hb1 hbA hb2 hA hA1 hb3
    refine wpAnyH_done (by kernel_rfl) ?_ _
    obtain ⟨c0, -, -⟩ := tok_cellsA hV
    have Hb9 := mkHid hbV
    clear hV hbV
    go_wp2
    go_ret
    exact ⟨rfl, Hb9.out⟩
end Go.Proofs.YtadoifnfgoonaaaGreatDoor
namespace Go.Proofs.YtadoifnfgoonaaaGreatDoor
open Go.RowKit Go.Lib
/-- An address: the tokens Q with points between, at, the tokens K; what they say. -/
structure Ad (Q K : List (Nat × ByteArray)) (l d : ByteArray) : Prop where
  hQ : Q ≠ []
  hW : Q.all isWd = true
  hlen : (dotT Q).length ≤ 1000
  hl : l = ⟨(dotT Q).toArray⟩
  hD : Dom K d
def adK (Q K L : List (Nat × ByteArray)) : List (Nat × ByteArray) := dotK Q ++ (5, ⟨#[64]⟩) :: (K ++ L)
/-- A box: its tokens ahead of L, and what they say. -/
inductive Bxk (L : List (Nat × ByteArray)) : List (Nat × ByteArray) → ByteArray → ByteArray → ByteArray → Prop
  | plain (Q K : List (Nat × ByteArray)) (l d : ByteArray) (h : Ad Q K l d) : Bxk L (adK Q K L) ⟨#[]⟩ l d
  | named (P Q K : List (Nat × ByteArray)) (n l d : ByteArray) (hP : P ≠ []) (hW : P.all isWd = true) (hlen : (phT P).length ≤ 1000) (hn : n = ⟨(phT P).toArray⟩) (h : Ad Q K l d) : Bxk L (P ++ (5, ⟨#[60]⟩) :: adK Q K ((5, ⟨#[62]⟩) :: L)) n l d
set_option maxRecDepth 20000 in
theorem adK_hd {Q K l d} (h : Ad Q K l d) (L : List (Nat × ByteArray)) : isWd (hdT (adK Q K L)) = true := by
  obtain ⟨p, R, h1, h2⟩ := dotK_hd Q h.hQ ((5, ⟨#[64]⟩) :: (K ++ L))
  unfold adK
  rw [h2]
  exact List.all_eq_true.1 h.hW p (List.mem_of_mem_head? h1)
set_option maxRecDepth 20000 in
theorem sgEq (c : UInt8) : isSg (5, ⟨#[c]⟩) ⟨#[c]⟩ = true := by simp [isSg]
set_option maxRecDepth 20000 in
theorem phSg (c : UInt8) (h : (c == 46) = false) : isPh (5, ⟨#[c]⟩) = false := by
  unfold isPh
  rw [sgNe c 46 h]
  rfl
set_option maxRecDepth 20000 in
set_option maxHeartbeats 8000000 in
theorem rsAngled {B g k : Nat} {T : List Tk} {s : ByteArray} {q : Nat × Nat} {w : World} (hT : Ts T s) (P Q K L : List (Nat × ByteArray)) (n l d : ByteArray) (hW : P.all isWd = true) (hlen : (phT P).length ≤ 1000) (hn : n = ⟨(phT P).toArray⟩) (hA : Ad Q K l d) (h : Rs B T g s q (P ++ (5, ⟨#[60]⟩) :: adK Q K ((5, ⟨#[62]⟩) :: L)) k w) :
    Calls Tryz.prog 118 #[scp g] w fun e w' => e = .returned (.tuple #[.agg #[.string n, .string l, .string d], .nilIface]) ∧ Rs B T g s q L k w' ∧ w.grownBy w' (some g) := by
  have hgl := h.glt
  have hql := h.qlt
  obtain ⟨W, hW0⟩ : ∃ W, W = w.alloc (.cells #[.string ⟨#[]⟩, .string ⟨#[]⟩, .string ⟨#[]⟩] 35) := ⟨_, rfl⟩
  have hbW : Below w.heap.size w W := by rw [hW0]; exact (Below.refl _ _).alloc (Nat.le_refl _) _
  have hA0 : W.heap[w.heap.size]? = some (.cells #[.string ⟨#[]⟩, .string ⟨#[]⟩, .string ⟨#[]⟩] 35 (0, 0)) := by rw [hW0]; exact hp_alloc _ _
  have c1 := mkHid (rsPhrase hT P ((5, ⟨#[60]⟩) :: adK Q K ((5, ⟨#[62]⟩) :: L)) (h.below hbW) hW (phSg 60 (by decide)) (Nat.le_trans hlen (by omega)) n hn)
  have HbW := mkHid hbW
  have HA0 := mkHid hA0
  have HW0 := mkHid hW0
  have HA := mkHid hA
  have hneg : some w.heap.size ≠ some g := fun e => by have := Option.some.inj e; omega
  clear h hW hlen hn hbW hA0 hW0 hA
  go_enter Tryz.func118, Tryz.ntmps118
  go_wp2_with fail
  rw [← HW0.out]
  refine c1.out.mono ?_
  rintro e w1 ⟨rfl, hR1, hg1⟩
  have HA1 : Hid (w1.heap[w.heap.size]? = some (.cells #[.string ⟨#[]⟩, .string ⟨#[]⟩, .string ⟨#[]⟩] 35 (0, 0))) := mkHid ((hg1.block _ (hp_lt HA0.out) hneg).trans HA0.out)
  have Hg1 := mkHid (grown_trans (grown_below HbW.out) hg1)
  have c2 := mkHid (rsTake hT 5 ⟨#[60]⟩ _ hR1)
  clear c1 hR1 hg1 HA0 HbW HW0
  go_wp2_with fail
  refine c2.out.mono ?_
  rintro e w2 ⟨a2, rfl, hR2, hg2⟩
  have HA2 : Hid (w2.heap[w.heap.size]? = some (.cells #[.string ⟨#[]⟩, .string ⟨#[]⟩, .string ⟨#[]⟩] 35 (0, 0))) := mkHid ((hg2.block _ (hp_lt HA1.out) hneg).trans HA1.out)
  have Hg2 := mkHid (grown_trans Hg1.out hg2)
  have hhd := adK_hd HA.out ((5, ⟨#[62]⟩) :: L)
  have c3 := mkHid (rsRoute hT _ hR2 (isWd_sg _ _ hhd) (isWd_sg _ _ hhd))
  have HR2 := mkHid hR2
  clear c2 hR2 hg2 HA1 Hg1 hhd
  go_wp2_with fail
  refine c3.out.mono ?_
  rintro e w3 ⟨rfl, hb3⟩
  have HA3 : Hid (w3.heap[w.heap.size]? = some (.cells #[.string ⟨#[]⟩, .string ⟨#[]⟩, .string ⟨#[]⟩] 35 (0, 0))) := mkHid ((hb3.block _ (hp_lt HA2.out)).trans HA2.out)
  have Hg3 := mkHid (gr_lowB Hg2.out hb3 Hg2.out.size)
  have c4 := mkHid (rsAddress hT Q K ((5, ⟨#[62]⟩) :: L) l d HA.out.hQ HA.out.hW HA.out.hlen HA.out.hl HA.out.hD (HR2.out.below hb3) (sgNe 62 46 (by decide)))
  clear c3 hb3 HA2 Hg2 HR2
  go_wp2_with fail
  refine c4.out.mono ?_
  rintro e w4 ⟨rfl, hR4, hg4⟩
  have HA4 : Hid (w4.heap[w.heap.size]? = some (.cells #[.string ⟨#[]⟩, .string ⟨#[]⟩, .string ⟨#[]⟩] 35 (0, 0))) := mkHid ((hg4.block _ (hp_lt HA3.out) hneg).trans HA3.out)
  have Hg4 := mkHid (grown_trans Hg3.out hg4)
  obtain ⟨W5, hW5⟩ : ∃ W, W = w4.alloc (.cells #[.string ⟨#[]⟩, .string l, .string d] 35) := ⟨_, rfl⟩
  have hb5 : Below w4.heap.size w4 W5 := by rw [hW5]; exact (Below.refl _ _).alloc (Nat.le_refl _) _
  have hB5 : W5.heap[w4.heap.size]? = some (.cells #[.string ⟨#[]⟩, .string l, .string d] 35 (0, 0)) := by rw [hW5]; exact hp_alloc _ _
  have HA5 : Hid (W5.heap[w.heap.size]? = some (.cells #[.string ⟨#[]⟩, .string ⟨#[]⟩, .string ⟨#[]⟩] 35 (0, 0))) := mkHid ((hb5.block _ (hp_lt HA4.out)).trans HA4.out)
  have Hg5 := mkHid (gr_lowB Hg4.out hb5 Hg4.out.size)
  have hg4l : g < w4.heap.size := hR4.glt
  have hw4l : w.heap.size < w4.heap.size := hp_lt HA4.out
  have c5 := mkHid (rsTakeYes hT ⟨#[62]⟩ L (hR4.below hb5))
  have HB5 := mkHid hB5
  have HW5 := mkHid hW5
  clear c4 hR4 hg4 HA3 Hg3 hb5 hB5 hW5 HA4 Hg4
  go_wp2_with fail
  rw [← HW5.out]
  refine c5.out.mono ?_
  rintro e w6 ⟨rfl, hR6, hg6⟩
  have HA6 : Hid (w6.heap[w.heap.size]? = some (.cells #[.string ⟨#[]⟩, .string ⟨#[]⟩, .string ⟨#[]⟩] 35 (0, 0))) := mkHid ((hg6.block _ (hp_lt HA5.out) hneg).trans HA5.out)
  have hB6 : w6.heap[w4.heap.size]? = some (.cells #[.string ⟨#[]⟩, .string l, .string d] 35 (0, 0)) := (hg6.block _ (hp_lt HB5.out) (fun e => by have := Option.some.inj e; omega)).trans HB5.out
  have Hg6 := mkHid (grown_trans Hg5.out hg6)
  have f6 : w6.frozen? ⟨w4.heap.size, 0, none⟩ = false := by simp [World.frozen?, hB6]
  have k6 : w6.cell? ⟨w4.heap.size, 0, none⟩ = some (.string ⟨#[]⟩) := by simp [World.cell?, hB6]
  obtain ⟨V, hV⟩ : ∃ V, V = w6.setCell ⟨w4.heap.size, 0, none⟩ (.string n) := ⟨_, rfl⟩
  have hBV : V.heap[w4.heap.size]? = some (.cells #[.string n, .string l, .string d] 35 (0, 0)) := by rw [hV]; simp [World.setCell, Array.getElem?_modify, hB6]
  have hgV : w6.grownBy V (some w4.heap.size) := by rw [hV]; exact grG_set _ _ _ _
  have hAV : V.heap[w.heap.size]? = some (.cells #[.string ⟨#[]⟩, .string ⟨#[]⟩, .string ⟨#[]⟩] 35 (0, 0)) := (hgV.block _ (hp_lt HA6.out) (fun e => by have := Option.some.inj e; omega)).trans HA6.out
  have HRV := mkHid (hR6.lowB (B0 := w4.heap.size) hg4l (by omega) ⟨hgV.os, hgV.tape, hgV.output, hgV.size, fun i hi => hgV.block i (Nat.lt_of_lt_of_le hi (by have := hp_lt hB6; omega)) (fun e => by have := Option.some.inj e; omega)⟩)
  have HgV : Hid (w.grownBy V (some g)) := mkHid ⟨hgV.os.trans Hg6.out.os, hgV.tape.trans Hg6.out.tape, hgV.output.trans Hg6.out.output, Nat.le_trans Hg6.out.size hgV.size, fun i hi hr => (hgV.block i (Nat.lt_of_lt_of_le hi Hg6.out.size) (fun e => by have := Option.some.inj e; omega)).trans (Hg6.out.block i hi hr)⟩
  have HBV := mkHid hBV
  have HAV := mkHid hAV
  rw [hV] at HBV HAV HRV HgV
  clear c5 hR6 hg6 HA5 Hg5 HB5 HW5 hB6 hV hBV hgV hAV HA6 Hg6
  go_wp2_with (first | (refine wpL_load_row rfl 35 _ rfl w4.heap.size #[.string n, .string l, .string d] 35 (0, 0) _ rfl HBV.out Tryz.underlying35 rfl (by kernel_rfl) ?_) | (refine wpL_store_row rfl 35 _ _ rfl w.heap.size #[.string n, .string l, .string d] rfl rfl 35 _ HAV.out (by kernel_rfl) rfl (by simp [Value.oneCell']) ?_))
  refine bodyPost_ret (v := .tuple #[.agg #[.string n, .string l, .string d], .nilIface]) (results_rowA Tryz.results118 _ _ w.heap.size 35 _ (0, 0) _ _ rfl (setRow_heap _ _ _ _ _ _ HAV.out) Tryz.underlying35 rfl (by kernel_rfl) rfl) rfl ?_
  exact ⟨rfl, HRV.out.setRow hgl hql (Nat.le_refl _), gr_setRowA HgV.out (Nat.le_refl _)⟩
end Go.Proofs.YtadoifnfgoonaaaGreatDoor
