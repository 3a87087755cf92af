
/- Plain mathematics of Phrase: lists of bytes alone; no program. -/

/- The bytes of phrases and atoms. -/

/- The walks of the model's Phrase. -/

/- The walks of quoting, and of the program's Phrase. -/

/- The walks of the two Phrase. -/

/- Plain mathematics of domains and boxes: lists of bytes alone; no program. -/
import Derived.Test.YtdjghniinnfncaaGreatDoorBytes
import Derived.Lib.SplitLaws
import Derived.Test.YtdjghniinnfncaaGreatDoorAnyVals
import Derived.Laws.OwnMore
namespace Go.Proofs.YtdjghniinnfncaaGreatDoor
open Go.Lib
namespace Pl
/-- A byte that may stand in a phrase. -/
def tb (c : UInt8) : Bool := decide (32 ≤ c.toNat) && !(c == 127)
def signs : List UInt8 := [33, 35, 36, 37, 38, 39, 42, 43, 45, 47, 61, 63, 94, 95, 123, 124, 125, 126, 96]
def signs0 : List UInt8 := [33, 35, 36, 37, 38, 39, 42, 43, 45, 47, 61, 63, 94, 95, 123, 124, 125, 126]
def alnum (c : UInt8) : Bool := decide (65 ≤ c.toNat ∧ c.toNat ≤ 90) || (decide (97 ≤ c.toNat ∧ c.toNat ≤ 122) || (decide (48 ≤ c.toNat ∧ c.toNat ≤ 57) || decide (128 ≤ c.toNat)))
/-- A byte of an atom. -/
def atom (c : UInt8) : Bool := alnum c || decide (0 ≤ indexByte signs c)
def atom' (c : UInt8) : Bool := alnum c || (c == 96 || (decide (32 < c.toNat) && (decide (c.toNat < 127) && decide (0 ≤ indexByte signs0 c))))
set_option maxRecDepth 20000 in
theorem atom_all : ∀ n, n < 256 → atom (UInt8.ofNat n) = atom' (UInt8.ofNat n) := by decide +kernel
set_option maxRecDepth 20000 in
theorem atom_eq (c : UInt8) : atom' c = atom c := by
  have := atom_all c.toNat (UInt8.toNat_lt c)
  rw [UInt8.ofNat_toNat] at this
  exact this.symm
set_option maxRecDepth 20000 in
theorem atom_blank : atom 32 = false := by decide +kernel
set_option maxRecDepth 20000 in
theorem atom_point : atom 46 = false := by decide +kernel

/-- Are these atoms with one byte d between each two? The flag: an atom has begun. -/
def scan (d : UInt8) : Bool → List UInt8 → Bool
  | was, [] => was
  | was, c :: r => if atom c then scan d true r else if c == d && was then scan d false r else false
/-- Cut at each d. -/
def sp (d : UInt8) : List UInt8 → List (List UInt8)
  | [] => [[]]
  | c :: r => if c = d then [] :: sp d r else match sp d r with | h :: t => (c :: h) :: t | [] => [[c]]
def okA (p : List UInt8) : Bool := !p.isEmpty && p.all atom
set_option maxRecDepth 20000 in
theorem sp_ne (d : UInt8) (l : List UInt8) : ∃ h t, sp d l = h :: t := by
  cases l with
  | nil => exact ⟨[], [], rfl⟩
  | cons c r =>
    unfold sp
    split
    · exact ⟨_, _, rfl⟩
    · cases sp d r with
      | nil => exact ⟨_, _, rfl⟩
      | cons h t => exact ⟨_, _, rfl⟩
set_option maxRecDepth 20000 in
theorem scan_sp (d : UInt8) (hd : atom d = false) : ∀ (l h : List UInt8) (t : List (List UInt8)), sp d l = h :: t → scan d true l = (h.all atom && t.all okA) ∧ scan d false l = (okA h && t.all okA)
  | [], h, t, e => by
    simp only [sp, List.cons.injEq] at e
    obtain ⟨rfl, rfl⟩ := e
    exact ⟨rfl, rfl⟩
  | c :: r, h, t, e => by
    obtain ⟨h', t', e'⟩ := sp_ne d r
    obtain ⟨i1, i2⟩ := scan_sp d hd r h' t' e'
    by_cases hc : c = d
    · subst hc
      rw [sp, if_pos rfl, List.cons.injEq] at e
      obtain ⟨rfl, rfl⟩ := e
      constructor
      · rw [scan, if_neg (by rw [hd]; simp), if_pos (by simp), i2, e']
        rfl
      · rw [scan, if_neg (by rw [hd]; simp), if_neg (by simp)]
        rfl
    · rw [sp, if_neg hc, e'] at e
      simp only [List.cons.injEq] at e
      obtain ⟨rfl, rfl⟩ := e
      by_cases ha : atom c = true
      · constructor
        · rw [scan, if_pos ha, i1, List.all_cons, ha, Bool.true_and]
        · rw [scan, if_pos ha, i1, okA, List.all_cons, ha, Bool.true_and]
          rfl
      · rw [Bool.not_eq_true] at ha
        have hn : (c == d) = false := by simpa using hc
        constructor
        · rw [scan, if_neg (by rw [ha]; simp), hn, List.all_cons, ha]
          rfl
        · rw [scan, if_neg (by rw [ha]; simp), hn, okA, List.all_cons, ha]
          simp
set_option maxRecDepth 20000 in
theorem scan_all (d : UInt8) (hd : atom d = false) (l : List UInt8) : (sp d l).all okA = scan d false l := by
  obtain ⟨h, t, e⟩ := sp_ne d l
  rw [(scan_sp d hd l h t e).2, e, List.all_cons]
set_option maxRecDepth 20000 in
/-- The library's cut is ours. -/
theorem split_sp (d : UInt8) : ∀ l : List UInt8, splitK [d] 0 (count l [d]) l = sp d l
  | [] => by rw [count_miss (by simp [index])]; rfl
  | c :: r => by
    have ih := split_sp d r
    by_cases hc : c = d
    · subst hc
      have hix : index (c :: r) [c] = 0 := by rw [index]; simp [List.isPrefixOf]
      rw [count_cons_eq, Nat.add_comm, splitK, hix, if_neg (by decide), sp, if_pos rfl, ← ih]
      rfl
    · have hp : ([d] : List UInt8).isPrefixOf (c :: r) = false := by simp [List.isPrefixOf, Ne.symm hc]
      have hix : index (c :: r) [d] = if index r [d] == -1 then -1 else index r [d] + 1 := by rw [index, hp]; simp
      rw [count_cons_ne c d r hc, sp, if_neg hc, ← ih]
      by_cases hm : index r [d] = -1
      · rw [count_miss hm]
        rfl
      · have hge := index_ge r [d]
        obtain ⟨j, hj⟩ : ∃ j : Nat, index r [d] = j := ⟨(index r [d]).toNat, by omega⟩
        have hne : (index r [d] == -1) = false := by rw [hj]; simp
        rw [hne] at hix
        simp only [Bool.false_eq_true, if_false] at hix
        have hne2 : (index (c :: r) [d] == -1) = false := by rw [hix, hj]; simp; omega
        obtain ⟨k, hk⟩ : ∃ k, count r [d] = k + 1 := ⟨count (r.drop (j + 1)) [d], by rw [count_hit (by simp) hj]; simp; omega⟩
        rw [hk, splitK, splitK, hne, hne2, hix, hj]
        have e1 : ((j : Int) + 1).toNat = j + 1 := by omega
        simp only [Bool.false_eq_true, if_false, e1, Int.toNat_natCast, Nat.add_zero, List.take_succ_cons, List.length_cons, List.length_nil]
        rfl
/-- Quoted. -/
def qs : List UInt8 → List UInt8
  | [] => []
  | c :: r => if c == 34 || c == 92 then 92 :: c :: qs r else c :: qs r
set_option maxRecDepth 20000 in
theorem qs_esc (l p x : List UInt8) (k : Nat) (hk : k < l.length) (h : (l[k] == 34 || l[k] == 92) = true) (hp : p ++ qs (l.drop k) = x) : (p ++ [92] ++ [l[k]]) ++ qs (l.drop (k + 1)) = x := by
  rw [drop_cons l k hk, qs, if_pos h] at hp
  simpa using hp
set_option maxRecDepth 20000 in
theorem qs_plain (l p x : List UInt8) (k : Nat) (hk : k < l.length) (h : (l[k] == 34 || l[k] == 92) = false) (hp : p ++ qs (l.drop k) = x) : (p ++ [l[k]]) ++ qs (l.drop (k + 1)) = x := by
  rw [drop_cons l k hk, qs, if_neg (by rw [h]; simp)] at hp
  simpa using hp
set_option maxRecDepth 20000 in
theorem qs_done (l p x : List UInt8) (k : Nat) (hk : l.length ≤ k) (hp : p ++ qs (l.drop k) = x) : p = x := by
  rw [List.drop_eq_nil_of_le hk] at hp
  simpa [qs] using hp
def phrase (l : List UInt8) : List UInt8 := if l.all tb then (if scan 32 false l then l else 34 :: qs l ++ [34]) else []
end Pl
end Go.Proofs.YtdjghniinnfncaaGreatDoor
namespace Go.Proofs.YtdjghniinnfncaaGreatDoor
open Go.RowKit Go.Lib
set_option maxRecDepth 20000 in
theorem tb_cases (c : UInt8) : c.toNat < 32 ∧ Pl.tb c = false ∨ 32 ≤ c.toNat ∧ ((c.toNat : Int) == 127) = true ∧ Pl.tb c = false ∨ 32 ≤ c.toNat ∧ ((c.toNat : Int) == 127) = false ∧ Pl.tb c = true := by
  by_cases h1 : c.toNat < 32
  · exact .inl ⟨h1, by simp [Pl.tb]; omega⟩
  · cases h3 : ((c.toNat : Int) == 127)
    · refine .inr (.inr ⟨by omega, rfl, ?_⟩)
      have := Pl.byte_ne c 127 _ rfl h3
      simp [Pl.tb, this]; omega
    · refine .inr (.inl ⟨by omega, rfl, ?_⟩)
      rw [Pl.byte_eq c 127 _ rfl h3]; rfl
set_option maxRecDepth 20000 in
theorem implTextByte (c : UInt8) (w : World) : Calls Tryz.prog 80 #[.int .u8 (c.toNat : Int)] w fun e w' => e = .returned (.bool (Pl.tb c)) ∧ w = w' := by
  have h8 : c.toNat < 256 := UInt8.toNat_lt _
  rcases tb_cases c with ⟨h, hb⟩ | ⟨h, h1, hb⟩ | ⟨h, h1, hb⟩ <;> rw [hb] <;> clear hb
  · go_enter Tryz.func80, Tryz.ntmps80
    go_wp2
    go_ret
    exact ⟨rfl, rfl⟩
  · have h3 : ((c.toNat : Int) != 127) = false := by rw [bne, h1]; rfl
    go_enter Tryz.func80, Tryz.ntmps80
    go_wp2
    go_ret
    exact ⟨rfl, rfl⟩
  · have h3 : ((c.toNat : Int) != 127) = true := by rw [bne, h1]; rfl
    go_enter Tryz.func80, Tryz.ntmps80
    go_wp2
    go_ret
    exact ⟨rfl, rfl⟩
set_option maxRecDepth 20000 in
theorem kindText : Kind 80 Pl.tb := ⟨Go.Proofs.enters_of Tryz.func80 (by kernel_rfl) rfl, implTextByte⟩
def Pl.letter (c : UInt8) : Bool := decide (65 ≤ c.toNat ∧ c.toNat ≤ 90) || decide (97 ≤ c.toNat ∧ c.toNat ≤ 122)
def Pl.digit (c : UInt8) : Bool := decide (48 ≤ c.toNat ∧ c.toNat ≤ 57)
set_option maxRecDepth 20000 in
/-- The ranges of a byte. -/
theorem range_cases (c : UInt8) : (c.toNat < 48 ∧ Pl.alnum c = false) ∨ (48 ≤ c.toNat ∧ c.toNat ≤ 57 ∧ Pl.alnum c = true) ∨ (58 ≤ c.toNat ∧ c.toNat ≤ 64 ∧ Pl.alnum c = false) ∨ (65 ≤ c.toNat ∧ c.toNat ≤ 90 ∧ Pl.alnum c = true) ∨
    (91 ≤ c.toNat ∧ c.toNat ≤ 96 ∧ Pl.alnum c = false) ∨ (97 ≤ c.toNat ∧ c.toNat ≤ 122 ∧ Pl.alnum c = true) ∨ (123 ≤ c.toNat ∧ c.toNat ≤ 127 ∧ Pl.alnum c = false) ∨ (128 ≤ c.toNat ∧ Pl.alnum c = true) := by
  unfold Pl.alnum
  by_cases h1 : c.toNat < 48
  · exact .inl ⟨h1, by simp; omega⟩
  by_cases h2 : c.toNat ≤ 57
  · exact .inr (.inl ⟨by omega, h2, by simp; omega⟩)
  by_cases h3 : c.toNat ≤ 64
  · exact .inr (.inr (.inl ⟨by omega, h3, by simp; omega⟩))
  by_cases h4 : c.toNat ≤ 90
  · exact .inr (.inr (.inr (.inl ⟨by omega, h4, by simp; omega⟩)))
  by_cases h5 : c.toNat ≤ 96
  · exact .inr (.inr (.inr (.inr (.inl ⟨by omega, h5, by simp; omega⟩))))
  by_cases h6 : c.toNat ≤ 122
  · exact .inr (.inr (.inr (.inr (.inr (.inl ⟨by omega, h6, by simp; omega⟩)))))
  by_cases h7 : c.toNat ≤ 127
  · exact .inr (.inr (.inr (.inr (.inr (.inr (.inl ⟨by omega, h7, by simp; omega⟩))))))
  · exact .inr (.inr (.inr (.inr (.inr (.inr (.inr ⟨by omega, by simp; omega⟩))))))
set_option maxRecDepth 20000 in
theorem implLetter (c : UInt8) (w : World) : Calls Tryz.prog 107 #[.int .u8 (c.toNat : Int)] w fun e w' => e = .returned (.bool (Pl.letter c)) ∧ w = w' := by
  have h8 : c.toNat < 256 := UInt8.toNat_lt _
  rcases range_cases c with ⟨h0, ha⟩ | ⟨h0, h1, ha⟩ | ⟨h0, h1, ha⟩ | ⟨h0, h1, ha⟩ | ⟨h0, h1, ha⟩ | ⟨h0, h1, ha⟩ | ⟨h0, h1, ha⟩ | ⟨h0, ha⟩ <;> clear ha
  all_goals
    first | rw [show Pl.letter c = true from by simp [Pl.letter]; omega] | rw [show Pl.letter c = false from by simp [Pl.letter]; omega]
    go_enter Tryz.func107, Tryz.ntmps107
    go_wp2
    go_ret
    first | exact ⟨rfl, rfl⟩ | exact ⟨congrArg (fun b => Ending.returned (.bool b)) (by simp; omega), rfl⟩
set_option maxRecDepth 20000 in
theorem implDigit (c : UInt8) (w : World) : Calls Tryz.prog 108 #[.int .u8 (c.toNat : Int)] w fun e w' => e = .returned (.bool (Pl.digit c)) ∧ w = w' := by
  have h8 : c.toNat < 256 := UInt8.toNat_lt _
  by_cases h0 : 48 ≤ c.toNat
  · rw [show Pl.digit c = decide ((c.toNat : Int) ≤ 57) from by unfold Pl.digit; by_cases h : c.toNat ≤ 57 <;> simp [h] <;> omega]
    go_enter Tryz.func108, Tryz.ntmps108
    go_wp2
    go_ret
    exact ⟨rfl, rfl⟩
  · rw [show Pl.digit c = false from by simp [Pl.digit]; omega]
    go_enter Tryz.func108, Tryz.ntmps108
    go_wp2
    go_ret
    exact ⟨rfl, rfl⟩
set_option maxRecDepth 20000 in
theorem libIndexByte (c : UInt8) (w : World) : Calls Tryz.prog 109 #[.string ⟨#[33, 35, 36, 37, 38, 39, 42, 43, 45, 47, 61, 63, 94, 95, 123, 124, 125, 126, 96]⟩, .int .u8 (c.toNat : Int)] w fun e w' => e = .returned (.int .i64 (indexByte Pl.signs c)) ∧ w = w' := by
  refine (Tryz.strings_IndexByte _ _ w).mono ?_
  rintro e w' ⟨rfl, rfl⟩
  refine ⟨?_, rfl⟩
  have : (c.toNat : Int).toNat.toUInt8 = c := by simp
  rw [this]
  rfl
set_option maxRecDepth 20000 in
set_option maxHeartbeats 1000000 in
theorem implAtomByte (c : UInt8) (w : World) : Calls Tryz.prog 91 #[.int .u8 (c.toNat : Int)] w fun e w' => e = .returned (.bool (Pl.atom c)) ∧ w = w' := by
  have h8 : c.toNat < 256 := UInt8.toNat_lt _
  have hx := fun w => libIndexByte c w
  have hL := fun w => implLetter c w
  have hD := fun w => implDigit c w
  unfold Pl.atom
  generalize indexByte Pl.signs c = i at hx
  rcases range_cases c with ⟨h0, ha⟩ | ⟨h0, h1, ha⟩ | ⟨h0, h1, ha⟩ | ⟨h0, h1, ha⟩ | ⟨h0, h1, ha⟩ | ⟨h0, h1, ha⟩ | ⟨h0, h1, ha⟩ | ⟨h0, ha⟩ <;> rw [ha] <;> clear ha <;> (try rw [Bool.false_or]) <;> (try rw [Bool.true_or])
  all_goals
    first | simp only [show Pl.letter c = true from by simp [Pl.letter]; omega] at hL | simp only [show Pl.letter c = false from by simp [Pl.letter]; omega] at hL
    first | simp only [show Pl.digit c = true from by simp [Pl.digit]; omega] at hD | simp only [show Pl.digit c = false from by simp [Pl.digit]; omega] at hD
    go_enter Tryz.func91, Tryz.ntmps91
    go_wp2_with first | (go_at_call 107; go_must (refine (hL _).mono ?_; rintro e w2 ⟨rfl, rfl⟩)) | (go_at_call 108; go_must (refine (hD _).mono ?_; rintro e w2 ⟨rfl, rfl⟩)) | (go_at_call 109; go_must (refine (hx _).mono ?_; rintro e w2 ⟨rfl, rfl⟩))
    go_ret
    first | exact ⟨rfl, rfl⟩ | exact ⟨congrArg (fun b => Ending.returned (.bool b)) (by simp; omega), rfl⟩
set_option maxRecDepth 20000 in
theorem kindAtom : Kind 91 Pl.atom := ⟨Go.Proofs.enters_of Tryz.func91 (by kernel_rfl) rfl, implAtomByte⟩
end Go.Proofs.YtdjghniinnfncaaGreatDoor
namespace Go.Proofs.YtdjghniinnfncaaGreatDoor
open Go.RowKit Go.Lib
set_option maxRecDepth 20000 in
theorem ix_hit (l : List UInt8) (c : UInt8) (k : Nat) (hk : k < l.length) (h : l[k] = c) : indexByte (l.drop k) c = 0 := by
  rw [Pl.drop_cons l k hk, indexByte, if_pos (by simpa using h)]
set_option maxRecDepth 20000 in
theorem ix_miss (l : List UInt8) (c : UInt8) (k : Nat) (hk : k < l.length) (h : l[k] ≠ c) : indexByte (l.drop k) c = if indexByte (l.drop (k + 1)) c == -1 then -1 else indexByte (l.drop (k + 1)) c + 1 := by
  rw [Pl.drop_cons l k hk, indexByte, if_neg (by simpa using h)]
set_option maxRecDepth 20000 in
theorem ext_one (s : ByteArray) (k : Nat) (h : k < s.size) : s.extract k (k + 1) = ⟨#[s[k]]⟩ := by
  apply ByteArray.ext
  apply Array.ext'
  rw [Pl.ext_data, Pl.drop_cons _ k (by simpa using h)]
  simp
  rfl
/-- A byte's first place in a text, looked for as a text. -/
def ixFrom (l : List UInt8) (c : UInt8) (k : Nat) : Int := if indexByte (l.drop k) c == -1 then -1 else indexByte (l.drop k) c + k
set_option maxRecDepth 20000 in
theorem ixFrom_hit (l : List UInt8) (c : UInt8) (k : Nat) (hk : k < l.length) (h : l[k] = c) : ixFrom l c k = k := by
  rw [ixFrom, ix_hit l c k hk h]; simp
set_option maxRecDepth 20000 in
theorem ixFrom_miss (l : List UInt8) (c : UInt8) (k : Nat) (hk : k < l.length) (h : l[k] ≠ c) : ixFrom l c (k + 1) = ixFrom l c k := by
  rw [ixFrom, ixFrom, ix_miss l c k hk h]
  have := indexByte_ge (l.drop (k + 1)) c
  generalize indexByte (l.drop (k + 1)) c = i at *
  by_cases hi : i = -1
  · subst hi; rfl
  · have h1 : (i == -1) = false := by simpa using hi
    have h2 : (i + 1 == -1) = false := by simp; omega
    rw [h1]
    simp only [Bool.false_eq_true, if_false, h2]
    omega
set_option maxRecDepth 20000 in
theorem ixFrom_end (l : List UInt8) (c : UInt8) (k : Nat) (hk : l.length ≤ k) : ixFrom l c k = -1 := by
  rw [ixFrom, List.drop_eq_nil_of_le hk]; rfl
set_option maxRecDepth 20000 in
set_option maxHeartbeats 1000000 in
theorem specIndex1 (s : ByteArray) (c : UInt8) (w : World) (_hs : s.size ≤ 1100000) :
    Calls Tryz.prog 111 #[.string s, .string ⟨#[c]⟩, .int .i64 0] w fun e w' => e = .returned (.int .i64 (ixFrom s.data.toList c 0)) ∧ w = w' := by
  obtain ⟨R, hR⟩ : ∃ R, ixFrom s.data.toList c 0 = R := ⟨_, rfl⟩
  rw [hR]
  have HR := (show Hid (ixFrom s.data.toList c 0 = R) from hR)
  clear hR
  have h1 : (ByteArray.mk #[c]).size = 1 := rfl
  go_enter Tryz.func111, Tryz.ntmps111
  go_wp2
  go_loopw [7] (fun i wr => ∃ k : Nat, k ≤ s.size ∧ i = .int .i64 k ∧ Hid (ixFrom s.data.toList c k = R) ∧ wr = w) (fun i _ => s.size - (Lib.intOf i).toNat)
  case atStart => exact ⟨0, Nat.zero_le _, rfl, HR, rfl⟩
  case round =>
    clear HR
    obtain ⟨k, hk, rfl, hp, rfl⟩ := hrel
    by_cases hlt : k < s.size
    · have he := ext_one s k hlt
      by_cases hc : s[k] = c
      · have hE : Hid (R = k) := show _ = _ from by rw [← hp.out, ixFrom_hit s.data.toList c k (by simpa using hlt) hc]
        rw [hc] at he
        clear hp
        go_wp2
        go_ret
        rw [hE.out]
        exact ⟨rfl, rfl⟩
      · have hE : Hid (ixFrom s.data.toList c (k + 1) = R) := show _ = _ from by rw [← hp.out, ixFrom_miss s.data.toList c k (by simpa using hlt) hc]
        have hcc : (s[k] == c) = false := by simpa using hc
        clear hp
        go_wp2
        go_roundw
        case rel => exact ⟨k + 1, by omega, by go_num, hE, trivial⟩
        case measure => simp [Lib.intOf]; omega
    · have hE : Hid (R = -1) := show _ = _ from by rw [← hp.out, ixFrom_end s.data.toList c k (by simp; omega)]
      clear hp
      go_wp2
      go_ret
      rw [hE.out]
      exact ⟨rfl, rfl⟩
set_option maxRecDepth 20000 in
theorem ix_zero (l : List UInt8) (c : UInt8) : ixFrom l c 0 = indexByte l c := by
  rw [ixFrom, List.drop_zero]
  by_cases h : indexByte l c = -1
  · rw [h]; rfl
  · have : (indexByte l c == -1) = false := by simpa using h
    rw [this]
    simp
set_option maxRecDepth 20000 in
theorem specSigns (c : UInt8) (w : World) : Calls Tryz.prog 111 #[.string ⟨#[33, 35, 36, 37, 38, 39, 42, 43, 45, 47, 61, 63, 94, 95, 123, 124, 125, 126]⟩, .string ⟨#[c]⟩, .int .i64 0] w fun e w' => e = .returned (.int .i64 (indexByte Pl.signs0 c)) ∧ w = w' := by
  refine (specIndex1 _ c w (by show 18 ≤ 1100000; omega)).mono ?_
  rintro e w' ⟨rfl, rfl⟩
  rw [ix_zero]
  exact ⟨rfl, rfl⟩
set_option maxRecDepth 20000 in
set_option maxHeartbeats 1000000 in
theorem specAtomByte (c : UInt8) (w : World) : Calls Tryz.prog 95 #[.int .u8 (c.toNat : Int)] w fun e w' => e = .returned (.bool (Pl.atom c)) ∧ Below w.heap.size w w' := by
  have h8 : c.toNat < 256 := UInt8.toNat_lt _
  have hx := fun w => specSigns c w
  have hcv : (convert 22 9 (.slice (some ⟨w.heap.size, 0, none⟩) 1 1)).run Tryz.prog (w.alloc (.cells #[.int .u8 (c.toNat : Int)] 5)) = .ok (.string ⟨#[c]⟩) (w.alloc (.cells #[.int .u8 (c.toNat : Int)] 5)) := by
    refine run_convert_bytes_back (P := Tryz.prog) _ 22 9 5 ⟨w.heap.size, 0, none⟩ 1 [c] Tryz.underlying22 Tryz.underlying5 Tryz.underlying9 ?_
    intro j hj
    match j, hj with
    | 0, hj => rw [add_off]; simp
  have hbA : Below w.heap.size w (w.alloc (.cells #[.int .u8 (c.toNat : Int)] 5)) := (Below.refl _ _).alloc (Nat.le_refl _) _
  have hb0 : Below w.heap.size w w := Below.refl _ _
  rw [← Pl.atom_eq]
  unfold Pl.atom'
  generalize indexByte Pl.signs0 c = i at hx ⊢
  cases h96 : ((c.toNat : Int) == 96)
  · have hc96 : (c == 96) = false := by simpa using Pl.byte_ne c 96 _ rfl h96
    rw [hc96, Bool.false_or]
    by_cases h32 : 32 < c.toNat
    · by_cases h127 : c.toNat < 127
      · rw [decide_eq_true h32, decide_eq_true h127, Bool.true_and, Bool.true_and]
        rcases range_cases c with ⟨h0, ha⟩ | ⟨h0, h1, ha⟩ | ⟨h0, h1, ha⟩ | ⟨h0, h1, ha⟩ | ⟨h0, h1, ha⟩ | ⟨h0, h1, ha⟩ | ⟨h0, h1, ha⟩ | ⟨h0, ha⟩ <;> rw [ha] <;> clear ha <;> (try (exfalso; omega)) <;> (try rw [Bool.false_or]) <;> (try rw [Bool.true_or])
        all_goals
          go_enter Tryz.func95, Tryz.ntmps95
          go_wp2_with (go_at_call 111; go_must (refine (hx _).mono ?_; rintro e w2 ⟨rfl, rfl⟩))
          go_ret
          first | exact ⟨rfl, hb0⟩ | exact ⟨rfl, hbA⟩
      · rw [decide_eq_true h32, decide_eq_false h127, Bool.true_and, Bool.false_and, Bool.or_false]
        rcases range_cases c with ⟨h0, ha⟩ | ⟨h0, h1, ha⟩ | ⟨h0, h1, ha⟩ | ⟨h0, h1, ha⟩ | ⟨h0, h1, ha⟩ | ⟨h0, h1, ha⟩ | ⟨h0, h1, ha⟩ | ⟨h0, ha⟩ <;> rw [ha] <;> clear ha <;> (try (exfalso; omega))
        all_goals
          go_enter Tryz.func95, Tryz.ntmps95
          go_wp2
          go_ret
          exact ⟨rfl, hb0⟩
    · rw [decide_eq_false h32, Bool.false_and, Bool.or_false]
      rcases range_cases c with ⟨h0, ha⟩ | ⟨h0, h1, ha⟩ | ⟨h0, h1, ha⟩ | ⟨h0, h1, ha⟩ | ⟨h0, h1, ha⟩ | ⟨h0, h1, ha⟩ | ⟨h0, h1, ha⟩ | ⟨h0, ha⟩ <;> rw [ha] <;> clear ha <;> (try (exfalso; omega))
      all_goals
        go_enter Tryz.func95, Tryz.ntmps95
        go_wp2
        go_ret
        exact ⟨rfl, hb0⟩
  · have hc96 : c = 96 := Pl.byte_eq c 96 _ rfl h96
    rw [show (c == 96) = true from by rw [hc96]; rfl, Bool.true_or, Bool.or_true]
    have hn : c.toNat = 96 := by rw [hc96]; rfl
    clear hc96
    go_enter Tryz.func95, Tryz.ntmps95
    go_wp2
    go_ret
    exact ⟨rfl, hb0⟩
set_option maxRecDepth 20000 in
set_option maxHeartbeats 1000000 in
theorem specClean (s : ByteArray) (w : World) (_hs : s.size ≤ 1100000) :
    Calls Tryz.prog 63 #[.string s] w fun e w' => e = .returned (.bool (s.data.toList.all Pl.tb)) ∧ w = w' := by
  obtain ⟨A, hA⟩ : ∃ A, s.data.toList.all Pl.tb = A := ⟨_, rfl⟩
  rw [hA]
  have HA : Hid ((s.data.toList.drop 0).all Pl.tb = A) := hA
  clear hA
  go_enter Tryz.func63, Tryz.ntmps63
  go_wp2
  go_loopw [3] (fun i wr => ∃ k : Nat, k ≤ s.size ∧ i = .int .i64 k ∧ Hid ((s.data.toList.drop k).all Pl.tb = A) ∧ wr = w) (fun i _ => s.size - (Lib.intOf i).toNat)
  case atStart => exact ⟨0, Nat.zero_le _, rfl, HA, rfl⟩
  case round =>
    clear HA
    obtain ⟨k, hk, rfl, hp, rfl⟩ := hrel
    by_cases hlt : k < s.size
    · have h8 : s[k].toNat < 256 := UInt8.toNat_lt _
      have hst : Hid ((s.data.toList.drop k).all Pl.tb = (Pl.tb s[k] && (s.data.toList.drop (k + 1)).all Pl.tb)) := Pl.all_step Pl.tb s.data.toList k (by simpa using hlt)
      have bad : Pl.tb s[k] = false → Hid (A = false) := by
        intro h
        have := hst.out
        rw [h, Bool.false_and, hp.out] at this
        exact this
      rcases tb_cases s[k] with ⟨h, hb⟩ | ⟨h, h1, hb⟩ | ⟨h, h1, hb⟩
      · have hB := bad hb
        clear bad hb hst hp
        go_wp2
        go_ret
        exact ⟨by rw [hB.out]; rfl, rfl⟩
      · have hB := bad hb
        clear bad hb hst hp
        go_wp2
        go_ret
        exact ⟨by rw [hB.out]; rfl, rfl⟩
      · have hg : Hid ((s.data.toList.drop (k + 1)).all Pl.tb = A) := show _ = _ from by
          have := hst.out
          rw [hb, Bool.true_and, hp.out] at this
          exact this.symm
        clear bad hb hst hp
        go_wp2
        go_roundw
        case rel => exact ⟨k + 1, by omega, by go_num, hg, trivial⟩
        case measure => simp [Lib.intOf]; omega
    · have H0 : Hid (A = true) := show _ = _ from by rw [← hp.out]; exact Pl.all_done Pl.tb _ k (by simp; omega)
      clear hp
      go_wp2
      go_ret
      exact ⟨by rw [H0.out]; rfl, rfl⟩
set_option maxRecDepth 20000 in
theorem scan_atom (d : UInt8) (l : List UInt8) (k : Nat) (b : Bool) (hk : k < l.length) (h : Pl.atom l[k] = true) : Pl.scan d b (l.drop k) = Pl.scan d true (l.drop (k + 1)) := by
  rw [Pl.drop_cons l k hk, Pl.scan, if_pos h]
set_option maxRecDepth 20000 in
theorem scan_blank (d : UInt8) (l : List UInt8) (k : Nat) (hk : k < l.length) (h : Pl.atom l[k] = false) (h2 : l[k] = d) : Pl.scan d true (l.drop k) = Pl.scan d false (l.drop (k + 1)) := by
  rw [Pl.drop_cons l k hk, Pl.scan, if_neg (by rw [h]; simp), if_pos (by rw [h2]; simp)]
set_option maxRecDepth 20000 in
theorem scan_bad (d : UInt8) (l : List UInt8) (k : Nat) (b : Bool) (hk : k < l.length) (h : Pl.atom l[k] = false) (h2 : l[k] ≠ d ∨ b = false) : Pl.scan d b (l.drop k) = false := by
  rw [Pl.drop_cons l k hk, Pl.scan, if_neg (by rw [h]; simp), if_neg]
  rcases h2 with h2 | h2
  · have : (l[k] == d) = false := by simpa using h2
    rw [this]; simp
  · rw [h2]; simp
set_option maxRecDepth 20000 in
theorem scan_end (d : UInt8) (l : List UInt8) (k : Nat) (b : Bool) (hk : l.length ≤ k) : Pl.scan d b (l.drop k) = b := by
  rw [List.drop_eq_nil_of_le hk]; rfl
set_option maxRecDepth 20000 in
set_option maxHeartbeats 1000000 in
theorem specAtoms (d : UInt8) (n : Int) (hn0 : n = (d.toNat : Int)) (s : ByteArray) (w : World) (_hs : s.size ≤ 1100000) :
    Calls Tryz.prog 84 #[.string s, .int .u8 n] w fun e w' => e = .returned (.bool (Pl.scan d false s.data.toList)) ∧ Below w.heap.size w w' := by
  obtain ⟨A, hA⟩ : ∃ A, Pl.scan d false s.data.toList = A := ⟨_, rfl⟩
  rw [hA]
  have HA : Hid (Pl.scan d false (s.data.toList.drop 0) = A) := hA
  clear hA
  have Hn0 := (show Hid (n = (d.toNat : Int)) from hn0)
  clear hn0
  go_enter Tryz.func84, Tryz.ntmps84
  go_wp2
  go_loopw [5, 6] (fun v i wr => ∃ (k : Nat) (b : Bool), k ≤ s.size ∧ i = .int .i64 k ∧ v = .bool b ∧ Hid (Pl.scan d b (s.data.toList.drop k) = A) ∧ Below w.heap.size w wr) (fun _ i _ => s.size - (Lib.intOf i).toNat)
  case atStart => exact ⟨0, false, Nat.zero_le _, rfl, rfl, HA, Below.refl _ _⟩
  case round =>
    clear HA
    obtain ⟨k, b, hk, rfl, rfl, hp, hb⟩ := hrel
    by_cases hlt : k < s.size
    · have h8 : s[k].toNat < 256 := UInt8.toNat_lt _
      have hll : k < s.data.toList.length := by simpa using hlt
      have hc := fun w => specAtomByte s[k] w
      cases ha : Pl.atom s[k] <;> simp only [ha] at hc
      · cases h32 : ((s[k].toNat : Int) == n)
        · have hB : Hid (A = false) := show _ = _ from by rw [← hp.out]; exact scan_bad d _ k b hll ha (.inl (Pl.byte_ne _ d _ Hn0.out h32))
          have hn : ((s[k].toNat : Int) != n) = true := by rw [bne, h32]; rfl
          clear hp ha
          go_wp2_with (go_at_call 95; go_must (refine (hc _).mono ?_; rintro e w2 ⟨rfl, hb2⟩))
          go_ret
          exact ⟨by rw [hB.out]; rfl, hb.trans (hb2.mono hb.size)⟩
        · have hn : ((s[k].toNat : Int) != n) = false := by rw [bne, h32]; rfl
          cases b
          · have hB : Hid (A = false) := show _ = _ from by rw [← hp.out]; exact scan_bad d _ k false hll ha (.inr rfl)
            clear hp ha
            go_wp2_with (go_at_call 95; go_must (refine (hc _).mono ?_; rintro e w2 ⟨rfl, hb2⟩))
            go_ret
            exact ⟨by rw [hB.out]; rfl, hb.trans (hb2.mono hb.size)⟩
          · have hB : Hid (Pl.scan d false (s.data.toList.drop (k + 1)) = A) := show _ = _ from by rw [← hp.out]; exact (scan_blank d _ k hll ha (Pl.byte_eq _ d _ Hn0.out h32)).symm
            clear hp ha
            go_wp2_with (go_at_call 95; go_must (refine (hc _).mono ?_; rintro e w2 ⟨rfl, hb2⟩))
            go_roundw
            case rel => exact ⟨k + 1, false, by omega, by go_num, rfl, hB, hb.trans (hb2.mono hb.size)⟩
            case measure => simp [Lib.intOf]; omega
      · have hB : Hid (Pl.scan d true (s.data.toList.drop (k + 1)) = A) := show _ = _ from by rw [← hp.out]; exact (scan_atom d _ k b hll ha).symm
        clear hp ha
        go_wp2_with (go_at_call 95; go_must (refine (hc _).mono ?_; rintro e w2 ⟨rfl, hb2⟩))
        go_roundw
        case rel => exact ⟨k + 1, true, by omega, by go_num, rfl, hB, hb.trans (hb2.mono hb.size)⟩
        case measure => simp [Lib.intOf]; omega
    · have H0 : Hid (A = b) := show _ = _ from by rw [← hp.out]; exact scan_end d _ k b (by simp; omega)
      clear hp
      go_wp2
      go_ret
      exact ⟨by rw [H0.out]; rfl, hb⟩
end Go.Proofs.YtdjghniinnfncaaGreatDoor
namespace Go.Proofs.YtdjghniinnfncaaGreatDoor
open Go.RowKit Go.Lib
end Go.Proofs.YtdjghniinnfncaaGreatDoor
namespace Go.Proofs.YtdjghniinnfncaaGreatDoor
open Go.RowKit Go.Lib
set_option maxRecDepth 20000 in
theorem part_size (sep : ByteArray) (sv : Nat) : ∀ (k : Nat) (s q : ByteArray), q ∈ splitB sep sv k s → q.size ≤ s.size
  | 0, s, q, h => by
    rw [splitB_zero, List.mem_singleton] at h
    rw [h]; exact Nat.le_refl _
  | k + 1, s, q, h => by
    unfold splitB at h
    split at h
    · rw [List.mem_singleton] at h
      rw [h]; exact Nat.le_refl _
    · rcases List.mem_cons.1 h with h | h
      · rw [h, ByteArray.size_extract]; omega
      · have := part_size sep sv k _ q h
        rw [ByteArray.size_extract] at this
        omega
set_option maxRecDepth 20000 in
theorem parts_all (d : UInt8) (hd : Pl.atom d = false) (s : ByteArray) : ((splitB ⟨#[d]⟩ 0 (countB s ⟨#[d]⟩) s).all fun q => Pl.okA q.data.toList) = Pl.scan d false s.data.toList := by
  rw [← Pl.scan_all d hd, ← Pl.split_sp]
  have := splitB_data ⟨#[d]⟩ 0 (countB s ⟨#[d]⟩) s
  rw [show (ByteArray.mk #[d]).data.toList = [d] from rfl] at this
  rw [show count s.data.toList [d] = countB s ⟨#[d]⟩ from rfl, ← this, List.all_map]
  rfl
set_option maxRecDepth 20000 in
theorem bcell_lt {w : World} {a : Addr} {v : Value} (h : w.cell? a = some v) : a.block < w.heap.size := by
  by_cases hb : a.block < w.heap.size
  · exact hb
  · have e : w.heap[a.block]? = none := Array.getElem?_eq_none (by omega)
    simp [World.cell?, e] at h
set_option maxRecDepth 20000 in
set_option maxHeartbeats 1000000 in
theorem implAreAtoms (d : UInt8) (hd : Pl.atom d = false) (s : ByteArray) (m : Int) (w : World) (hs : s.size ≤ 100000) (hm : w.cell? ⟨0, 0, none⟩ = some (.int .i64 m)) :
    Calls Tryz.prog 76 #[.string s, .string ⟨#[d]⟩] w fun e w' => e = .returned (.bool (Pl.scan d false s.data.toList)) ∧ Below w.heap.size w w' := by
  have h1 : (ByteArray.mk #[d]).size = 1 := rfl
  have hsp := Tryz.strings_Split s ⟨#[d]⟩ m w (by omega) hm (by omega)
  have hln := splitB_all ⟨#[d]⟩ (by omega) 0 _ s rfl
  have hsz := part_size ⟨#[d]⟩ 0 (countB s ⟨#[d]⟩) s
  have hcl := countB_le ⟨#[d]⟩ (by omega) s.size s (Nat.le_refl _)
  rw [← parts_all d hd]
  rw [← hln] at hsp
  generalize hP : splitB ⟨#[d]⟩ 0 (countB s ⟨#[d]⟩) s = parts at hsp hln hsz ⊢
  obtain ⟨A, hA⟩ : ∃ A, (parts.all fun q => Pl.okA q.data.toList) = A := ⟨_, rfl⟩
  rw [hA]
  have HA : Hid (((parts.drop 0).all fun q => Pl.okA q.data.toList) = A) := hA
  have Hsz := (show Hid (∀ q, q ∈ parts → q.size ≤ s.size) from fun q hq => hsz q hq)
  have hn : parts.length ≤ 100001 := by omega
  obtain ⟨W1, hW1⟩ : ∃ W1, w.alloc (.cells (parts.map Value.string).toArray 9) = W1 := ⟨_, rfl⟩
  have hcell : Hid (∀ k (h : k < parts.length), W1.cell? ⟨w.heap.size, k, none⟩ = some (.string parts[k])) := show ∀ k (h : k < parts.length), _ from by
    intro k h
    rw [← hW1]
    simp [h]
  have hbW : Below w.heap.size w W1 := by rw [← hW1]; exact (Below.refl _ _).alloc (Nat.le_refl _) _
  rw [hW1] at hsp
  have hadd := fun k => add_off w.heap.size k
  clear hd hA hP hsz hln hcl hm hW1
  go_enter Tryz.func76, Tryz.ntmps76
  go_wp2_with fail
  refine hsp.mono ?_
  rintro e w1 ⟨rfl, rfl⟩
  clear hsp
  go_wp2
  go_loopw [6, 11] (fun _ i wr => ∃ k : Nat, k ≤ parts.length ∧ i = .int .i64 k ∧ Hid (((parts.drop k).all fun q => Pl.okA q.data.toList) = A) ∧ wr = w1) (fun _ i _ => parts.length - (Lib.intOf i).toNat)
  case atStart => exact ⟨0, Nat.zero_le _, rfl, HA, rfl⟩
  case round =>
    clear HA
    obtain ⟨k, hk, rfl, hp, rfl⟩ := hrel
    by_cases hlt : k < parts.length
    · have hc := hcell.out k hlt
      have hq := Hsz.out parts[k] (List.getElem_mem _)
      have hst : Hid (((parts.drop k).all fun q => Pl.okA q.data.toList) = (Pl.okA parts[k].data.toList && ((parts.drop (k + 1)).all fun q => Pl.okA q.data.toList))) := show _ = _ from by
        rw [List.drop_eq_getElem_cons hlt, List.all_cons]
      generalize parts[k] = q at hc hq hst
      have hall := fun w => implAllOf kindAtom q w (by omega)
      by_cases h0 : q.size = 0
      · have hE : q.toList.isEmpty = true := by
          rw [ByteArray.toList_eq, List.isEmpty_iff]
          exact List.length_eq_zero_iff.1 (by rw [Pl.len_list]; exact h0)
        have hB : Hid (A = false) := show _ = _ from by
          rw [← hp.out, hst.out]
          rw [ByteArray.toList_eq] at hE
          simp [Pl.okA, hE]
        clear hp hst
        go_wp2
        go_ret
        exact ⟨by rw [hB.out]; rfl, hbW⟩
      · have hE : q.toList.isEmpty = false := by
          rw [ByteArray.toList_eq, List.isEmpty_eq_false_iff]
          intro e
          exact h0 (by rw [← Pl.len_list, e]; rfl)
        cases hall2 : q.data.toList.all Pl.atom <;> simp only [hall2] at hall
        · have hB : Hid (A = false) := show _ = _ from by
            rw [← hp.out, hst.out, Pl.okA, hall2, Bool.and_false, Bool.false_and]
          clear hp hst hall2
          go_wp2_with (go_at_call 79; go_must (refine (hall _).mono ?_; rintro e w2 ⟨rfl, rfl⟩))
          go_ret
          exact ⟨by rw [hB.out]; rfl, hbW⟩
        · have hB : Hid (((parts.drop (k + 1)).all fun q => Pl.okA q.data.toList) = A) := show _ = _ from by
            have := hst.out
            rw [ByteArray.toList_eq] at hE
            rw [hp.out, Pl.okA, hall2, hE, Bool.not_false, Bool.true_and, Bool.true_and] at this
            exact this.symm
          clear hp hst hall2
          go_wp2_with (go_at_call 79; go_must (refine (hall _).mono ?_; rintro e w2 ⟨rfl, rfl⟩))
          go_roundw
          case rel => exact ⟨k + 1, by omega, by go_num, hB, trivial⟩
          case measure => simp [Lib.intOf]; omega
    · have H0 : Hid (A = true) := show _ = _ from by rw [← hp.out, List.drop_eq_nil_of_le (by omega)]; rfl
      clear hp
      go_wp2
      go_ret
      exact ⟨by rw [H0.out]; rfl, hbW⟩
end Go.Proofs.YtdjghniinnfncaaGreatDoor
namespace Go.Proofs.YtdjghniinnfncaaGreatDoor
open Go.Lib
namespace Pl
/-- A byte of a literal. -/
def litB (c : UInt8) : Bool := decide (32 ≤ c.toNat) && (decide (c.toNat ≤ 126) && (!(c == 91) && (!(c == 93) && !(c == 92))))
/-- What stands between the first byte and the last. -/
def mid (l : List UInt8) : List UInt8 := (l.take (l.length - 1)).drop 1
def isLit (l : List UInt8) : Bool := hasPrefix l [91] && (hasSuffix (trimPrefix l [91]) [93] && (trimSuffix (trimPrefix l [91]) [93]).all litB)
def domI (l : List UInt8) : Bool := decide (l.length ≤ 255) && (scan 46 false l || isLit l)
set_option maxRecDepth 20000 in
theorem atom_open : atom 91 = false := by decide +kernel
set_option maxRecDepth 20000 in
theorem scan_open (r : List UInt8) : scan 46 false (91 :: r) = false := by
  rw [scan, if_neg (by rw [atom_open]; simp), if_neg (by decide)]
set_option maxRecDepth 20000 in
/-- A text that opens with no bracket. -/
theorem dom_atoms (l : List UInt8) (c : UInt8) (r : List UInt8) (e : l = c :: r) (h : c ≠ 91) (hn : l.length ≤ 255) : domI l = scan 46 false l := by
  have hp : hasPrefix l [91] = false := by rw [e, hasPrefix]; simp [List.isPrefixOf, Ne.symm h]
  rw [domI, isLit, hp, decide_eq_true hn]
  simp
set_option maxRecDepth 20000 in
theorem suf (r : List UInt8) (d : UInt8) (h : 1 ≤ r.length) : hasSuffix r [d] = (r[r.length - 1] == d) := by
  obtain ⟨x, y, rfl⟩ : ∃ x y, r = x ++ [y] := ⟨r.dropLast, r.getLast (by intro e; rw [e] at h; simp at h), (List.dropLast_concat_getLast _).symm⟩
  rw [hasSuffix]
  simp [List.isSuffixOf, List.isPrefixOf]
  by_cases e : d = y
  · subst e; simp
  · have : (d == y) = false := by simpa using e
    have : (y == d) = false := by simpa using Ne.symm e
    simp [*]
set_option maxRecDepth 20000 in
theorem dom_lit (l : List UInt8) (r : List UInt8) (e : l = 91 :: r) (hn : l.length ≤ 255) : domI l = isLit l := by
  rw [domI, decide_eq_true hn, e, scan_open]
  simp
set_option maxRecDepth 20000 in
theorem lit_short (l : List UInt8) (r : List UInt8) (e : l = 91 :: r) (h : l.length < 2) : isLit l = false := by
  have : r = [] := by rw [e] at h; simp at h; exact List.length_eq_zero_iff.1 (by omega)
  rw [e, this]; rfl
set_option maxRecDepth 20000 in
theorem lit_open (l : List UInt8) (r : List UInt8) (e : l = 91 :: r) (h : 2 ≤ l.length) (hl : l[l.length - 1] ≠ 93) : isLit l = false := by
  subst e
  have h1 : 1 ≤ r.length := by simpa using h
  have hp : hasPrefix (91 :: r) [91] = true := by simp [hasPrefix, List.isPrefixOf]
  have hg : (91 :: r)[(91 :: r).length - 1]'(by simp) = r[r.length - 1] := by
    have : (91 :: r).length - 1 = (r.length - 1) + 1 := by simp; omega
    simp only [this, List.getElem_cons_succ]
  rw [hg] at hl
  rw [isLit, trimPrefix, hp, if_pos rfl]
  simp only [List.length_cons, List.length_nil, List.drop_succ_cons, List.drop_zero]
  rw [suf r 93 h1]
  have : (r[r.length - 1] == 93) = false := by simpa using hl
  rw [this]
  simp
set_option maxRecDepth 20000 in
theorem lit_mid (l : List UInt8) (r : List UInt8) (e : l = 91 :: r) (h : 2 ≤ l.length) (hl : l[l.length - 1] = 93) : isLit l = (mid l).all litB := by
  subst e
  have h1 : 1 ≤ r.length := by simpa using h
  have hp : hasPrefix (91 :: r) [91] = true := by simp [hasPrefix, List.isPrefixOf]
  have hg : (91 :: r)[(91 :: r).length - 1]'(by simp) = r[r.length - 1] := by
    have : (91 :: r).length - 1 = (r.length - 1) + 1 := by simp; omega
    simp only [this, List.getElem_cons_succ]
  rw [hg] at hl
  have hs : hasSuffix r [93] = true := by rw [suf r 93 h1, hl]; rfl
  have e1 : trimPrefix (91 :: r) [91] = r := by rw [trimPrefix, hp, if_pos rfl]; rfl
  rw [isLit, hp, e1, hs, trimSuffix, hs, if_pos rfl, mid]
  have : (91 :: r).length - 1 = (r.length - 1) + 1 := by simp; omega
  rw [this]
  simp
set_option maxRecDepth 20000 in
theorem mid_step (l : List UInt8) (k : Nat) (hk : k < l.length - 1) : (((l.take (l.length - 1)).drop k).all litB) = (litB (l[k]'(by omega)) && ((l.take (l.length - 1)).drop (k + 1)).all litB) := by
  rw [List.drop_eq_getElem_cons (by simp; omega), List.all_cons]
  simp
set_option maxRecDepth 20000 in
theorem mid_done (l : List UInt8) (k : Nat) (hk : l.length - 1 ≤ k) : (((l.take (l.length - 1)).drop k).all litB) = true := by
  rw [List.drop_eq_nil_of_le (by simp; omega)]
  rfl
end Pl
end Go.Proofs.YtdjghniinnfncaaGreatDoor
