
/- Plain mathematics of Phrase: lists of bytes alone; no program. -/

/- A word's parts, plain: both sides cut the same. -/

/- Two digits of base 16, as the library's reader of numbers takes them. -/

/- A line of quoted bytes, the program's side. -/

/- Blanks left out ahead of a text, by the library. -/

/- Signs of hex digits and blanks, the specification's side. -/

/- A word's signs, plain: the underscores as blanks, the coded bytes. -/
import Derived.Test.YtajkahpkbeobaaaGreatDoorBytes
import Derived.Lib.SplitLaws
import Derived.Test.YtajkahpkbeobaaaGreatDoorSpecCut
import Derived.Test.YtajkahpkbeobaaaGreatDoorSubjFind
import Derived.Lib.AsciiSet
namespace Go.Proofs.YtajkahpkbeobaaaGreatDoor
open Go.Lib
namespace Pl
/-- A byte that may stand in a phrase. -/
def tb (c : UInt8) : Bool := decide (32 ≤ c.toNat) && !(c == 127)
def signs : List UInt8 := [33, 35, 36, 37, 38, 39, 42, 43, 45, 47, 61, 63, 94, 95, 123, 124, 125, 126, 96]
def signs0 : List UInt8 := [33, 35, 36, 37, 38, 39, 42, 43, 45, 47, 61, 63, 94, 95, 123, 124, 125, 126]
def alnum (c : UInt8) : Bool := decide (65 ≤ c.toNat ∧ c.toNat ≤ 90) || (decide (97 ≤ c.toNat ∧ c.toNat ≤ 122) || (decide (48 ≤ c.toNat ∧ c.toNat ≤ 57) || decide (128 ≤ c.toNat)))
/-- A byte of an atom. -/
def atom (c : UInt8) : Bool := alnum c || decide (0 ≤ indexByte signs c)
def atom' (c : UInt8) : Bool := alnum c || (c == 96 || (decide (32 < c.toNat) && (decide (c.toNat < 127) && decide (0 ≤ indexByte signs0 c))))
set_option maxRecDepth 20000 in
theorem atom_all : ∀ n, n < 256 → atom (UInt8.ofNat n) = atom' (UInt8.ofNat n) := by decide +kernel
set_option maxRecDepth 20000 in
theorem atom_eq (c : UInt8) : atom' c = atom c := by
  have := atom_all c.toNat (UInt8.toNat_lt c)
  rw [UInt8.ofNat_toNat] at this
  exact this.symm
set_option maxRecDepth 20000 in
theorem atom_blank : atom 32 = false := by decide +kernel
set_option maxRecDepth 20000 in
theorem atom_point : atom 46 = false := by decide +kernel

/-- Are these atoms with one byte d between each two? The flag: an atom has begun. -/
def scan (d : UInt8) : Bool → List UInt8 → Bool
  | was, [] => was
  | was, c :: r => if atom c then scan d true r else if c == d && was then scan d false r else false
/-- Cut at each d. -/
def sp (d : UInt8) : List UInt8 → List (List UInt8)
  | [] => [[]]
  | c :: r => if c = d then [] :: sp d r else match sp d r with | h :: t => (c :: h) :: t | [] => [[c]]
def okA (p : List UInt8) : Bool := !p.isEmpty && p.all atom
set_option maxRecDepth 20000 in
theorem sp_ne (d : UInt8) (l : List UInt8) : ∃ h t, sp d l = h :: t := by
  cases l with
  | nil => exact ⟨[], [], rfl⟩
  | cons c r =>
    unfold sp
    split
    · exact ⟨_, _, rfl⟩
    · cases sp d r with
      | nil => exact ⟨_, _, rfl⟩
      | cons h t => exact ⟨_, _, rfl⟩
set_option maxRecDepth 20000 in
theorem scan_sp (d : UInt8) (hd : atom d = false) : ∀ (l h : List UInt8) (t : List (List UInt8)), sp d l = h :: t → scan d true l = (h.all atom && t.all okA) ∧ scan d false l = (okA h && t.all okA)
  | [], h, t, e => by
    simp only [sp, List.cons.injEq] at e
    obtain ⟨rfl, rfl⟩ := e
    exact ⟨rfl, rfl⟩
  | c :: r, h, t, e => by
    obtain ⟨h', t', e'⟩ := sp_ne d r
    obtain ⟨i1, i2⟩ := scan_sp d hd r h' t' e'
    by_cases hc : c = d
    · subst hc
      rw [sp, if_pos rfl, List.cons.injEq] at e
      obtain ⟨rfl, rfl⟩ := e
      constructor
      · rw [scan, if_neg (by rw [hd]; simp), if_pos (by simp), i2, e']
        rfl
      · rw [scan, if_neg (by rw [hd]; simp), if_neg (by simp)]
        rfl
    · rw [sp, if_neg hc, e'] at e
      simp only [List.cons.injEq] at e
      obtain ⟨rfl, rfl⟩ := e
      by_cases ha : atom c = true
      · constructor
        · rw [scan, if_pos ha, i1, List.all_cons, ha, Bool.true_and]
        · rw [scan, if_pos ha, i1, okA, List.all_cons, ha, Bool.true_and]
          rfl
      · rw [Bool.not_eq_true] at ha
        have hn : (c == d) = false := by simpa using hc
        constructor
        · rw [scan, if_neg (by rw [ha]; simp), hn, List.all_cons, ha]
          rfl
        · rw [scan, if_neg (by rw [ha]; simp), hn, okA, List.all_cons, ha]
          simp
set_option maxRecDepth 20000 in
theorem scan_all (d : UInt8) (hd : atom d = false) (l : List UInt8) : (sp d l).all okA = scan d false l := by
  obtain ⟨h, t, e⟩ := sp_ne d l
  rw [(scan_sp d hd l h t e).2, e, List.all_cons]
set_option maxRecDepth 20000 in
/-- The library's cut is ours. -/
theorem split_sp (d : UInt8) : ∀ l : List UInt8, splitK [d] 0 (count l [d]) l = sp d l
  | [] => by rw [count_miss (by simp [index])]; rfl
  | c :: r => by
    have ih := split_sp d r
    by_cases hc : c = d
    · subst hc
      have hix : index (c :: r) [c] = 0 := by rw [index]; simp [List.isPrefixOf]
      rw [count_cons_eq, Nat.add_comm, splitK, hix, if_neg (by decide), sp, if_pos rfl, ← ih]
      rfl
    · have hp : ([d] : List UInt8).isPrefixOf (c :: r) = false := by simp [List.isPrefixOf, Ne.symm hc]
      have hix : index (c :: r) [d] = if index r [d] == -1 then -1 else index r [d] + 1 := by rw [index, hp]; simp
      rw [count_cons_ne c d r hc, sp, if_neg hc, ← ih]
      by_cases hm : index r [d] = -1
      · rw [count_miss hm]
        rfl
      · have hge := index_ge r [d]
        obtain ⟨j, hj⟩ : ∃ j : Nat, index r [d] = j := ⟨(index r [d]).toNat, by omega⟩
        have hne : (index r [d] == -1) = false := by rw [hj]; simp
        rw [hne] at hix
        simp only [Bool.false_eq_true, if_false] at hix
        have hne2 : (index (c :: r) [d] == -1) = false := by rw [hix, hj]; simp; omega
        obtain ⟨k, hk⟩ : ∃ k, count r [d] = k + 1 := ⟨count (r.drop (j + 1)) [d], by rw [count_hit (by simp) hj]; simp; omega⟩
        rw [hk, splitK, splitK, hne, hne2, hix, hj]
        have e1 : ((j : Int) + 1).toNat = j + 1 := by omega
        simp only [Bool.false_eq_true, if_false, e1, Int.toNat_natCast, Nat.add_zero, List.take_succ_cons, List.length_cons, List.length_nil]
        rfl
/-- Quoted. -/
def qs : List UInt8 → List UInt8
  | [] => []
  | c :: r => if c == 34 || c == 92 then 92 :: c :: qs r else c :: qs r
set_option maxRecDepth 20000 in
theorem qs_esc (l p x : List UInt8) (k : Nat) (hk : k < l.length) (h : (l[k] == 34 || l[k] == 92) = true) (hp : p ++ qs (l.drop k) = x) : (p ++ [92] ++ [l[k]]) ++ qs (l.drop (k + 1)) = x := by
  rw [drop_cons l k hk, qs, if_pos h] at hp
  simpa using hp
set_option maxRecDepth 20000 in
theorem qs_plain (l p x : List UInt8) (k : Nat) (hk : k < l.length) (h : (l[k] == 34 || l[k] == 92) = false) (hp : p ++ qs (l.drop k) = x) : (p ++ [l[k]]) ++ qs (l.drop (k + 1)) = x := by
  rw [drop_cons l k hk, qs, if_neg (by rw [h]; simp)] at hp
  simpa using hp
set_option maxRecDepth 20000 in
theorem qs_done (l p x : List UInt8) (k : Nat) (hk : l.length ≤ k) (hp : p ++ qs (l.drop k) = x) : p = x := by
  rw [List.drop_eq_nil_of_le hk] at hp
  simpa [qs] using hp
def phrase (l : List UInt8) : List UInt8 := if l.all tb then (if scan 32 false l then l else 34 :: qs l ++ [34]) else []
end Pl
end Go.Proofs.YtajkahpkbeobaaaGreatDoor
namespace Go.Proofs.YtajkahpkbeobaaaGreatDoor
open Go.Lib
namespace Pw
set_option maxRecDepth 20000 in
theorem cut_sp (d : UInt8) : ∀ (l acc : List UInt8), ∃ h t, Pl.sp d l = h :: t ∧ Cu.cut d acc l = (acc ++ h) :: t
  | [], acc => ⟨[], [], rfl, by simp [Cu.cut]⟩
  | c :: r, acc => by
    by_cases hc : c = d
    · obtain ⟨h, t, h1, h2⟩ := cut_sp d r []
      refine ⟨[], Pl.sp d r, ?_, ?_⟩
      · rw [Pl.sp, if_pos hc]
      · rw [Cu.cut, if_pos hc, h2, h1]
        simp
    · obtain ⟨h, t, h1, h2⟩ := cut_sp d r (acc ++ [c])
      refine ⟨c :: h, t, ?_, ?_⟩
      · rw [Pl.sp, if_neg hc, h1]
      · rw [Cu.cut, if_neg hc, h2]
        simp
set_option maxRecDepth 20000 in
theorem sp_cut (d : UInt8) (l : List UInt8) : Pl.sp d l = Cu.cut d [] l := by
  obtain ⟨h, t, h1, h2⟩ := cut_sp d l []
  rw [h1, h2]
  simp
set_option maxRecDepth 20000 in
theorem cut_join (d : UInt8) : ∀ (a acc b : List UInt8), Cu.cut d acc (a ++ d :: b) = Cu.cut d acc a ++ Cu.cut d [] b
  | [], acc, b => by simp [Cu.cut]
  | c :: r, acc, b => by
    rw [List.cons_append, Cu.cut, Cu.cut]
    by_cases hc : c = d
    · rw [if_pos hc, if_pos hc, cut_join d r [] b]
      rfl
    · rw [if_neg hc, if_neg hc, cut_join d r (acc ++ [c]) b]
set_option maxRecDepth 20000 in
/-- A word's parts are its inner text's parts between two signs. -/
theorem word_parts (m : List UInt8) : Cu.cut 63 [] (61 :: 63 :: (m ++ [63, 61])) = [61] :: (Cu.cut 63 [] m ++ [[61]]) := by
  have e : (61 : UInt8) :: 63 :: (m ++ [63, 61]) = [61] ++ 63 :: (m ++ 63 :: [61]) := by simp
  rw [e, cut_join, cut_join]
  rfl
set_option maxRecDepth 20000 in
theorem trim_pre (l : List UInt8) (h : hasPrefix l [61, 63] = true) : l = 61 :: 63 :: trimPrefix l [61, 63] := by
  have h2 := h
  unfold hasPrefix at h
  obtain ⟨t, rfl⟩ := List.isPrefixOf_iff_prefix.1 h
  rw [trimPrefix, if_pos h2]
  rfl
set_option maxRecDepth 20000 in
theorem trim_suf (l : List UInt8) (h : hasSuffix l [63, 61] = true) : l = trimSuffix l [63, 61] ++ [63, 61] := by
  have h2 := h
  unfold hasSuffix at h
  obtain ⟨t, rfl⟩ := List.isSuffixOf_iff_suffix.1 h
  rw [trimSuffix, if_pos h2]
  simp
set_option maxRecDepth 20000 in
theorem word_shape (l : List UInt8) (h1 : hasPrefix l [61, 63] = true) (h2 : hasSuffix (trimPrefix l [61, 63]) [63, 61] = true) : l = 61 :: 63 :: (trimSuffix (trimPrefix l [61, 63]) [63, 61] ++ [63, 61]) := by
  rw [← trim_suf _ h2]
  exact trim_pre l h1
set_option maxRecDepth 20000 in
/-- A text that begins and ends as a word, but in less than four bytes, has no five parts. -/
theorem word_short (l : List UInt8) (h1 : hasPrefix l [61, 63] = true) (h2 : hasSuffix l [63, 61] = true) (h3 : hasSuffix (trimPrefix l [61, 63]) [63, 61] = false) : (Cu.cut 63 [] l).length ≠ 5 := by
  have hp := trim_pre l h1
  have hs := trim_suf l h2
  have hl : l.length < 4 := by
    apply Decidable.byContradiction
    intro hn
    have : hasSuffix (trimPrefix l [61, 63]) [63, 61] = true := by
      unfold hasSuffix
      rw [List.isSuffixOf_iff_suffix]
      have hlen := congrArg List.length hs
      rw [List.length_append] at hlen
      have hlen2 : [(63 : UInt8), 61].length = 2 := rfl
      refine ⟨(trimSuffix l [63, 61]).drop 2, ?_⟩
      have e : trimPrefix l [61, 63] = l.drop 2 := by
        conv => rhs; rw [hp]
        rfl
      rw [e]
      conv => rhs; rw [hs]
      rw [List.drop_append_of_le_length (by omega)]
    rw [this] at h3
    cases h3
  have := Cu.cut_len 63 l []
  omega
end Pw
end Go.Proofs.YtajkahpkbeobaaaGreatDoor
namespace Go.Proofs.YtajkahpkbeobaaaGreatDoor
open Go.RowKit Go.Lib
set_option maxRecDepth 20000 in
theorem isEmpty_neH (q : ByteArray) (h0 : ¬ q.size = 0) : q.toList.isEmpty = false := by
  rw [ByteArray.toList_eq, List.isEmpty_eq_false_iff]
  intro e
  exact h0 (by rw [← Pl.len_list, e]; rfl)
set_option maxRecDepth 20000 in
theorem isEmpty_ofH (q : ByteArray) (h0 : q.size = 0) : q.toList.isEmpty = true := by
  rw [ByteArray.toList_eq, List.isEmpty_iff]
  exact List.length_eq_zero_iff.1 (by rw [Pl.len_list]; exact h0)
namespace Pl
/-- A digit of base 16. -/
def hexV (c : UInt8) : Option Nat := if 48 ≤ c.toNat ∧ c.toNat ≤ 57 then some (c.toNat - 48) else if 65 ≤ c.toNat ∧ c.toNat ≤ 70 then some (c.toNat - 55) else if 97 ≤ c.toNat ∧ c.toNat ≤ 102 then some (c.toNat - 87) else none
set_option maxRecDepth 20000 in
theorem hexV_lt {c : UInt8} {d : Nat} (h : hexV c = some d) : d < 16 := by
  unfold hexV at h
  repeat' split at h
  all_goals first | (cases h; omega) | cases h
/-- What the library's reader of numbers sees of a byte: 0 a digit, 1 a letter up to f, 2 another letter, 3 neither. -/
def lowI (x : Nat) : Int := bits .or .u8 (x : Int) 32
set_option maxRecDepth 20000 in
theorem low_cases : ∀ X : Fin 256, (48 ≤ X.val ∧ X.val ≤ 57 ∧ hexV (UInt8.ofNat X.val) = some (X.val - 48)) ∨
    (¬ (48 ≤ X.val ∧ X.val ≤ 57) ∧ 97 ≤ lowI X.val ∧ lowI X.val ≤ 102 ∧ hexV (UInt8.ofNat X.val) = some (lowI X.val - 87).toNat) ∨
    (¬ (48 ≤ X.val ∧ X.val ≤ 57) ∧ 103 ≤ lowI X.val ∧ lowI X.val ≤ 122 ∧ hexV (UInt8.ofNat X.val) = none) ∨
    (¬ (48 ≤ X.val ∧ X.val ≤ 57) ∧ (lowI X.val < 97 ∨ 122 < lowI X.val) ∧ hexV (UInt8.ofNat X.val) = none) := by decide +kernel
set_option maxRecDepth 20000 in
theorem low_cases' (c : UInt8) : (48 ≤ c.toNat ∧ c.toNat ≤ 57 ∧ hexV c = some (c.toNat - 48)) ∨
    (¬ (48 ≤ c.toNat ∧ c.toNat ≤ 57) ∧ 97 ≤ lowI c.toNat ∧ lowI c.toNat ≤ 102 ∧ hexV c = some (lowI c.toNat - 87).toNat) ∨
    (¬ (48 ≤ c.toNat ∧ c.toNat ≤ 57) ∧ 103 ≤ lowI c.toNat ∧ lowI c.toNat ≤ 122 ∧ hexV c = none) ∨
    (¬ (48 ≤ c.toNat ∧ c.toNat ≤ 57) ∧ (lowI c.toNat < 97 ∨ 122 < lowI c.toNat) ∧ hexV c = none) := by
  have := low_cases ⟨c.toNat, UInt8.toNat_lt c⟩
  simpa using this
/-- The number that digits of base 16 make, as far as they are digits. -/
def hexNum : List UInt8 → Nat → Option Nat
  | [], n => some n
  | c :: r, n => match hexV c with | some d => hexNum r (n * 16 + d) | none => none
end Pl
/-- What the library's inner reader of numbers answers. -/
def puV : Option Nat → Value
  | some n => .tuple #[.int .u64 n, .nilIface]
  | none => .tuple #[.int .u64 0, .iface 172 (.int .i64 2)]
set_option maxRecDepth 20000 in
theorem low95 : Pl.lowI 95 = 127 := by decide +kernel
set_option maxRecDepth 100000 in
set_option maxHeartbeats 2000000 in
theorem libParse (s : ByteArray) (hs : s.size = 2) (w : World) : Calls Tryz.prog 145 #[.string s, .int .i64 16, .int .i64 8] w fun e w' => e = .returned (puV (Pl.hexNum s.data.toList 0)) ∧ Below w.heap.size w w' := by
  have hne : s.toList.isEmpty = false := isEmpty_neH s (by omega)
  obtain ⟨cap, W, hcv, hh, hbW⟩ := bytesOf (P := Tryz.prog) 9 35 Tryz.underlying9 Tryz.underlying35 Tryz.underlying5 s w
  go_enter Tryz.func145, Tryz.ntmps145
  go_wp2
  clear hcv
  go_loopw [12, 13, 101] (fun u n i wr => ∃ (k acc : Nat) (a : Int), u = .bool false ∧ n = .int .u64 a ∧ i = .int .i64 k ∧ k ≤ 2 ∧ Hid (a = (acc : Int) ∧ ((k = 0 → acc = 0) ∧ (k ≤ 1 → acc ≤ 15)) ∧ acc ≤ 255 ∧ Pl.hexNum (s.data.toList.drop k) acc = Pl.hexNum s.data.toList 0) ∧ wr = W) (fun _ _ i _ => 2 - (Lib.intOf i).toNat)
  case atStart => exact ⟨0, 0, 0, rfl, rfl, rfl, by omega, ⟨rfl, ⟨fun _ => rfl, fun _ => by omega⟩, by omega, rfl⟩, rfl⟩
  case round =>
    obtain ⟨k, acc, a, rfl, rfl, rfl, hk, hH, rfl⟩ := hrel
    obtain ⟨ha, hm, hm2, hp⟩ := hH.out
    clear hH
    have hll : s.data.toList.length = 2 := by rw [Pl.len_list]; exact hs
    have a0 : 0 ≤ a := by omega
    by_cases hlt : k < 2
    · obtain ⟨hc, -⟩ := hh k (by omega)
      rw [List.drop_eq_getElem_cons (by omega)] at hp
      generalize s.data.toList[k] = c at hc hp
      have h8 : c.toNat < 256 := UInt8.toNat_lt _
      have hlo := Tryz.internal_strconv_lower (c.toNat : Int) wr
      change Calls Tryz.prog 149 #[.int .u8 (c.toNat : Int)] wr fun e w' => e = .returned (.int .u8 (Pl.lowI c.toNat)) ∧ w' = wr at hlo
      have a1 : a ≤ 15 := by omega
      have hacc : acc ≤ 15 := by omega
      clear hh hll hne
      rcases Pl.low_cases' c with ⟨h1, h2, hv⟩ | ⟨h1, h2, h3, hv⟩ | ⟨h1, h2, h3, hv⟩ | ⟨h1, h2, hv⟩
      · have hE : Hid (a * 16 + ((c.toNat : Int) - 48) = ((acc * 16 + (c.toNat - 48) : Nat) : Int) ∧ ((k + 1 = 0 → acc * 16 + (c.toNat - 48) = 0) ∧ (k + 1 ≤ 1 → acc * 16 + (c.toNat - 48) ≤ 15)) ∧ acc * 16 + (c.toNat - 48) ≤ 255 ∧ Pl.hexNum (s.data.toList.drop (k + 1)) (acc * 16 + (c.toNat - 48)) = Pl.hexNum s.data.toList 0) := by
          refine ⟨by omega, ?_, by omega, ?_⟩
          · exact ⟨fun h => by omega, fun h => by have := hm.1 (by omega); omega⟩
          · rw [Pl.hexNum, hv] at hp; exact hp
        have iov : a * 16 + ((c.toNat : Int) - 48) ≤ 255 := by omega
        clear hp hv hlo ha hm hm2 hacc
        go_wp2
        go_roundw
        case rel => exact ⟨k + 1, _, a * 16 + ((c.toNat : Int) - 48), rfl, by first | rfl | (congr 1; omega), by go_num, by omega, hE, trivial⟩
        case measure => simp [Lib.intOf]; omega
      · have hE : Hid (a * 16 + (Pl.lowI c.toNat - 87) = ((acc * 16 + (Pl.lowI c.toNat - 87).toNat : Nat) : Int) ∧ ((k + 1 = 0 → acc * 16 + (Pl.lowI c.toNat - 87).toNat = 0) ∧ (k + 1 ≤ 1 → acc * 16 + (Pl.lowI c.toNat - 87).toNat ≤ 15)) ∧ acc * 16 + (Pl.lowI c.toNat - 87).toNat ≤ 255 ∧ Pl.hexNum (s.data.toList.drop (k + 1)) (acc * 16 + (Pl.lowI c.toNat - 87).toNat) = Pl.hexNum s.data.toList 0) := by
          refine ⟨by omega, ?_, by omega, ?_⟩
          · exact ⟨fun h => by omega, fun h => by have := hm.1 (by omega); omega⟩
          · rw [Pl.hexNum, hv] at hp; exact hp
        have iov : a * 16 + (Pl.lowI c.toNat - 87) ≤ 255 := by omega
        clear hp hv ha hm hm2 hacc
        have h95 : ¬ (c.toNat : Int) = 95 := fun h => by rw [show c.toNat = 95 by omega, low95] at h2 h3; omega
        generalize Pl.lowI c.toNat = lo at hlo h2 h3 hE iov
        have h1' : c.toNat < 48 ∨ 57 < c.toNat := by omega
        clear h1
        rcases h1' with h1 | h1
        all_goals
          go_wp2_with (go_at_call 149; go_must (refine hlo.mono ?_; rintro e w' ⟨rfl, rfl⟩))
          go_roundw
          case rel => exact ⟨k + 1, _, a * 16 + (lo - 87), rfl, by first | rfl | (congr 1; omega), by go_num, by omega, hE, trivial⟩
          case measure => simp [Lib.intOf]; omega
      · have hE : Hid (Pl.hexNum s.data.toList 0 = none) := show _ = _ by rw [Pl.hexNum, hv] at hp; exact hp.symm
        clear hp hv ha hm hm2 hacc
        have h95 : ¬ (c.toNat : Int) = 95 := fun h => by rw [show c.toNat = 95 by omega, low95] at h2 h3; omega
        generalize Pl.lowI c.toNat = lo at hlo h2 h3
        have h1' : c.toNat < 48 ∨ 57 < c.toNat := by omega
        have h2' : 97 ≤ lo := by omega
        clear h1
        rcases h1' with h1 | h1
        all_goals
          go_wp2_with (go_at_call 149; go_must (refine hlo.mono ?_; rintro e w' ⟨rfl, rfl⟩))
          go_ret2
          exact ⟨by rw [hE.out]; rfl, hbW⟩
      · have hE : Hid (Pl.hexNum s.data.toList 0 = none) := show _ = _ by rw [Pl.hexNum, hv] at hp; exact hp.symm
        clear hp hv ha hm hm2 hacc
        by_cases h95 : c.toNat = 95
        · rw [h95, low95] at hlo
          rw [h95] at hc
          clear h2 h1
          go_wp2_with (go_at_call 149; go_must (refine hlo.mono ?_; rintro e w' ⟨rfl, rfl⟩))
          go_ret2
          exact ⟨by rw [hE.out]; rfl, hbW⟩
        · have h95' : ¬ (c.toNat : Int) = 95 := by omega
          generalize Pl.lowI c.toNat = lo at hlo h2
          have h1' : c.toNat < 48 ∨ 57 < c.toNat := by omega
          have h2' : lo < 97 ∨ (97 ≤ lo ∧ 122 < lo) := by omega
          clear h1 h2
          rcases h1' with h1 | h1 <;> rcases h2' with h2 | ⟨h2, h3⟩
          all_goals
            go_wp2_with (go_at_call 149; go_must (refine hlo.mono ?_; rintro e w' ⟨rfl, rfl⟩))
            go_ret2
            exact ⟨by rw [hE.out]; rfl, hbW⟩
    · have hE : Hid (Pl.hexNum s.data.toList 0 = some acc) := show _ = _ by rw [List.drop_eq_nil_of_le (by omega), Pl.hexNum] at hp; exact hp.symm
      obtain rfl : k = 2 := by omega
      clear hp hm hm2 hh hll
      subst ha
      go_wp2
      go_ret2
      exact ⟨by rw [hE.out]; rfl, hbW⟩
/-- The library's variable ErrSyntax holds an error or none. -/
def ErrCell (w : World) : Prop := 4 < w.heap.size ∧ ∃ ev, w.cell? ⟨4, 0, none⟩ = some ev ∧ (ev = .nilIface ∨ ∃ te pe, ev = .iface te pe)
set_option maxRecDepth 20000 in
theorem ErrCell.below {w w' : World} (h : ErrCell w) (hb : Below w.heap.size w w') : ErrCell w' := by
  obtain ⟨h0, ev, h1, h2⟩ := h
  refine ⟨Nat.lt_of_lt_of_le h0 hb.size, ev, ?_, h2⟩
  rw [← h1]
  exact hb.cell h0
set_option maxRecDepth 40000 in
set_option maxHeartbeats 1000000 in
theorem libParseUint (s : ByteArray) (hs : s.size = 2) (w : World) (hE : ErrCell w) : Calls Tryz.prog 139 #[.string s, .int .i64 16, .int .i64 8] w fun e w' => (match Pl.hexNum s.data.toList 0 with | some n => e = .returned (.tuple #[.int .u64 n, .nilIface]) | none => ∃ N, e = .returned (.tuple #[.int .u64 0, .iface 173 (.pointer (some ⟨N, 0, none⟩))])) ∧ Below w.heap.size w w' := by
  have hP := libParse s hs w
  cases hx : Pl.hexNum s.data.toList 0 with
  | some n =>
    rw [hx] at hP
    unfold puV at hP
    dsimp only
    go_enter Tryz.func139, Tryz.ntmps139
    go_wp2_with fail
    refine hP.mono ?_
    rintro e w2 ⟨rfl, hb2⟩
    go_wp2
    go_ret2
    exact ⟨rfl, hb2⟩
  | none =>
    rw [hx] at hP
    unfold puV at hP
    dsimp only
    go_enter Tryz.func139, Tryz.ntmps139
    go_wp2_with fail
    refine hP.mono ?_
    rintro e w2 ⟨rfl, hb2⟩
    obtain ⟨-, ev, h1, h2⟩ := hE.below hb2
    go_wp2_with fail
    refine (Tryz.strconv_toError_syntax _ s 16 8 ev _ (by omega) h1 h2).mono ?_
    rintro e w3 ⟨M, rfl, -, -, hb3⟩
    have hbx := hb2.trans (hb3.mono hb2.size)
    go_wp2
    go_ret2
    exact ⟨⟨M, rfl⟩, hbx⟩
namespace Pl
/-- The byte that the two digits at a text's beginning make. -/
def hex2 : List UInt8 → Option Nat
  | a :: b :: _ => hexNum [a, b] 0
  | _ => none
set_option maxRecDepth 20000 in
theorem hexNum2_lt {a b : UInt8} {n : Nat} (h : hexNum [a, b] 0 = some n) : n < 256 := by
  unfold hexNum at h
  cases ha : hexV a with
  | none => rw [ha] at h; cases h
  | some d =>
    rw [ha] at h
    dsimp only at h
    unfold hexNum at h
    cases hb : hexV b with
    | none => rw [hb] at h; cases h
    | some e =>
      rw [hb] at h
      dsimp only at h
      unfold hexNum at h
      cases h
      have := hexV_lt ha
      have := hexV_lt hb
      omega
set_option maxRecDepth 20000 in
theorem hex2_lt {l : List UInt8} {n : Nat} (h : hex2 l = some n) : n < 256 := by
  unfold hex2 at h
  split at h
  · exact hexNum2_lt h
  · cases h
set_option maxRecDepth 20000 in
theorem hex2_short {l : List UInt8} (h : l.length < 2) : hex2 l = none := by
  match l, h with
  | [], _ => rfl
  | [a], _ => rfl
set_option maxRecDepth 20000 in
theorem hex2_take (l : List UInt8) (h : 2 ≤ l.length) : hex2 l = hexNum (l.take 2) 0 := by
  match l, h with
  | a :: b :: r, _ => rfl
end Pl
end Go.Proofs.YtajkahpkbeobaaaGreatDoor
namespace Go.Proofs.YtajkahpkbeobaaaGreatDoor
open Go.RowKit Go.Lib
set_option maxRecDepth 40000 in
set_option maxHeartbeats 1000000 in
theorem implHexByte (s : ByteArray) (w : World) (hs : s.size ≤ 1100000) (hE : ErrCell w) : Calls Tryz.prog 126 #[.string s] w fun e w' => e = .returned (match Pl.hex2 s.data.toList with | some n => .tuple #[.int .u8 n, .bool true] | none => .tuple #[.int .u8 0, .bool false]) ∧ Below w.heap.size w w' := by
  by_cases h2 : s.size < 2
  · rw [Pl.hex2_short (by rw [Pl.len_list]; exact h2)]
    dsimp only
    go_enter Tryz.func126, Tryz.ntmps126
    go_wp2
    go_ret2
    exact ⟨rfl, Below.refl _ _⟩
  · have ht : (s.extract 0 2).size = 2 := by simp; omega
    have hP := libParseUint (s.extract 0 2) ht w hE
    rw [show (s.extract 0 2).data.toList = s.data.toList.take 2 by simp] at hP
    rw [Pl.hex2_take _ (by rw [Pl.len_list]; omega)]
    cases hx : Pl.hexNum (s.data.toList.take 2) 0 with
    | some n =>
      have hn : n < 256 := by
        have := Pl.hex2_take s.data.toList (by rw [Pl.len_list]; omega)
        rw [hx] at this
        exact Pl.hex2_lt this
      rw [hx] at hP
      dsimp only at hP ⊢
      go_enter Tryz.func126, Tryz.ntmps126
      go_wp2_with fail
      refine hP.mono ?_
      rintro e w2 ⟨rfl, hb2⟩
      go_wp2
      go_region
      all_goals
        go_wp2
        go_ret2
        exact ⟨rfl, hb2.drew⟩
    | none =>
      rw [hx] at hP
      dsimp only at hP ⊢
      go_enter Tryz.func126, Tryz.ntmps126
      go_wp2_with fail
      refine hP.mono ?_
      rintro e w2 ⟨⟨M, rfl⟩, hb2⟩
      go_wp2
      go_region
      all_goals
        go_wp2
        go_ret2
        exact ⟨rfl, hb2.drew⟩
namespace Pl
/-- A line's bytes behind what is there; none: an ill sign. -/
def qb (out : List UInt8) (l : List UInt8) : Option (List UInt8) :=
  match l with
  | [] => some out
  | c :: r => if c = 61 then (match hex2 r with | some n => qb (out ++ [UInt8.ofNat n]) (r.drop 2) | none => none) else qb (out ++ [c]) r
  termination_by l.length
  decreasing_by all_goals (simp; try omega)
set_option maxRecDepth 20000 in
theorem qb_done {p : List UInt8} {x : Option (List UInt8)} {l : List UInt8} {k : Nat} (hk : l.length ≤ k) (hp : qb p (l.drop k) = x) : x = some p := by
  rw [List.drop_eq_nil_of_le hk, qb] at hp
  exact hp.symm
set_option maxRecDepth 20000 in
theorem qb_plain {p : List UInt8} {x : Option (List UInt8)} {l : List UInt8} {k : Nat} (hk : k < l.length) (h : l[k] ≠ 61) (hp : qb p (l.drop k) = x) : qb (p ++ [l[k]]) (l.drop (k + 1)) = x := by
  rw [List.drop_eq_getElem_cons hk, qb, if_neg h] at hp
  exact hp
set_option maxRecDepth 20000 in
theorem qb_hex {p : List UInt8} {x : Option (List UInt8)} {l : List UInt8} {k n : Nat} (hk : k < l.length) (h : l[k] = 61) (hn : hex2 (l.drop (k + 1)) = some n) (hp : qb p (l.drop k) = x) : qb (p ++ [UInt8.ofNat n]) (l.drop (k + 3)) = x := by
  rw [List.drop_eq_getElem_cons hk, qb, if_pos h, hn, List.drop_drop] at hp
  exact hp
set_option maxRecDepth 20000 in
theorem qb_bad {p : List UInt8} {x : Option (List UInt8)} {l : List UInt8} {k : Nat} (hk : k < l.length) (h : l[k] = 61) (hn : hex2 (l.drop (k + 1)) = none) (hp : qb p (l.drop k) = x) : x = none := by
  rw [List.drop_eq_getElem_cons hk, qb, if_pos h, hn] at hp
  exact hp.symm
set_option maxRecDepth 20000 in
theorem hex2_room {l : List UInt8} {n : Nat} (h : hex2 l = some n) : 2 ≤ l.length := by
  by_cases h2 : l.length < 2
  · rw [hex2_short h2] at h; cases h
  · omega
end Pl
set_option maxRecDepth 20000 in
theorem ext_tail (s : ByteArray) (k : Nat) : (s.extract k s.size).data.toList = s.data.toList.drop k := by
  simp only [ByteArray.data_extract, Array.toList_extract, List.extract_eq_take_drop]
  rw [List.take_of_length_le (by rw [List.length_drop, Pl.len_list]; omega)]
/-- What a line's bytes are, as they are answered. -/
def QbOut (B : Nat) (x : Option (List UInt8)) (e : Ending) (w' : World) : Prop := match x with | some p => ∃ v, e = .returned (.tuple #[v, .bool true]) ∧ Own B v p w' | none => e = .returned (.tuple #[.slice none 0 0, .bool false])
set_option maxRecDepth 20000 in
theorem QbOut.no {B : Nat} {x : Option (List UInt8)} {w' : World} (h : x = none) : QbOut B x (.returned (.tuple #[.slice none 0 0, .bool false])) w' := by subst h; rfl
set_option maxRecDepth 20000 in
theorem QbOut.yes {B : Nat} {x : Option (List UInt8)} {p : List UInt8} {v : Value} {w' : World} (h : x = some p) (ho : Own B v p w') : QbOut B x (.returned (.tuple #[v, .bool true])) w' := by subst h; exact ⟨v, rfl, ho⟩
set_option maxRecDepth 20000 in
theorem Own.keepbU {B : Nat} {v : Value} {p : List UInt8} {w w' : World} (h : Own B v p w) (hb : Below w.heap.size w w') : Own B v p w' := by
  obtain ⟨h1, h2⟩ := h
  refine ⟨h1, ?_⟩
  rcases h2 with h2 | ⟨g, cap, cur, e1, e2, e3, e4⟩
  · exact .inl h2
  · refine .inr ⟨g, cap, cur, e1, e2, ?_, e4⟩
    rw [hb.block g (by rw [Array.getElem?_eq_some_iff] at e3; exact e3.1)]
    exact e3
set_option maxRecDepth 40000 in
set_option maxHeartbeats 2000000 in
theorem implQuotedBytes (s : ByteArray) (w : World) (hs : s.size ≤ 1100000) (hE : ErrCell w) : Calls Tryz.prog 101 #[.string s] w fun e w' => QbOut w.heap.size (Pl.qb [] s.data.toList) e w' ∧ Below w.heap.size w w' := by
  obtain ⟨i0, hi, hy0, hy1, hy2⟩ := info_parts Tryz.info5
  have HE : Hid (ErrCell w) := hE
  clear hE
  obtain ⟨x, hx⟩ : ∃ x, Pl.qb [] s.data.toList = x := ⟨_, rfl⟩
  rw [hx]
  have Hx : Hid (Pl.qb [] s.data.toList = x) := hx
  clear hx
  have hll : s.data.toList.length = s.size := Pl.len_list s
  go_enter Tryz.func101, Tryz.ntmps101
  go_wp2
  go_loopw [2, 4] (fun v i wr => ∃ (k : Nat) (p : List UInt8), k ≤ s.size ∧ i = .int .i64 k ∧ p.length ≤ k ∧ Hid (Pl.qb p (s.data.toList.drop k) = x) ∧ Own w.heap.size v p wr ∧ Below w.heap.size w wr) (fun _ i _ => s.size - (Lib.intOf i).toNat)
  case atStart => exact ⟨0, [], Nat.zero_le _, rfl, by simp, Hx, Own.nil _ _, Below.refl _ _⟩
  case round =>
    obtain ⟨k, p, hk, rfl, hpl, hp, hown, hb⟩ := hrel
    by_cases hlt : k < s.size
    · have h8 : s[k].toNat < 256 := UInt8.toNat_lt _
      have hat := Pl.at_list s k hlt
      by_cases hc : s[k] = 61
      · have hpb := fun h => Pl.qb_bad (by omega) (hat.trans hc) h hp.out
        have hph := fun n h => Pl.qb_hex (n := n) (by omega) (hat.trans hc) h hp.out
        have hH := implHexByte (s.extract (k + 1) s.size) wr (by simp; omega) (HE.out.below hb)
        rw [ext_tail s (k + 1)] at hH
        have hci : (s[k].toNat : Int) = 61 := by rw [hc]; rfl
        clear hp hat
        cases hn : Pl.hex2 (s.data.toList.drop (k + 1)) with
        | none =>
          have hE : Hid (x = none) := show _ = _ from hpb hn
          rw [hn] at hH
          dsimp only at hH
          clear hpb hph hn
          go_wp2_with (go_at_call 126; go_must (refine hH.mono ?_; rintro e w2 ⟨rfl, hb2⟩))
          go_ret2
          exact ⟨QbOut.no hE.out, hb.trans (hb2.mono hb.size)⟩
        | some n =>
          have hE : Hid (Pl.qb (p ++ [UInt8.ofNat n]) (s.data.toList.drop (k + 3)) = x) := hph n hn
          have hn2 := Pl.hex2_lt hn
          have hroom := Pl.hex2_room hn
          rw [List.length_drop, hll] at hroom
          rw [hn] at hH
          dsimp only at hH
          clear hpb hph hn

          go_wp2_with (first | (go_at_call 126; go_must (refine hH.mono ?_; rintro e w2 ⟨rfl, hb2⟩; have hown2 := hown.keepbU hb2; have hbw := hb.trans (hb2.mono hb.size))) | (at_builtin; go_must (refine wp_app (W := w) rfl _ _ 35 rfl i0 Tryz.underlying35 hi hy0 hy1 hy2 w.heap.size u2 p rfl hown2 _ [UInt8.ofNat n] (by simp [byteCells]; omega) 1 1 rfl rfl (by simp; omega) (Nat.le_refl _) hbw ?_; intro v3 w3 hown3 hb3)))
          go_roundw
          case rel => exact ⟨k + 3, _, by omega, by go_num, by simp; omega, hE, hown3, hb3⟩
          case measure => simp [Lib.intOf]; omega
      · have hE : Hid (Pl.qb (p ++ [s[k]]) (s.data.toList.drop (k + 1)) = x) := show _ = _ by have := Pl.qb_plain (by omega) (by rw [hat]; exact hc) hp.out; rw [hat] at this; exact this
        have hci : ¬ (s[k].toNat : Int) = 61 := fun h => hc (UInt8.toNat_inj.1 (by simpa using (by omega : s[k].toNat = 61)))
        clear hp hat hc
        generalize hsk : s[k] = c at *
        go_wp2_with (at_builtin; go_must (refine wp_app (W := w) rfl _ _ 35 rfl i0 Tryz.underlying35 hi hy0 hy1 hy2 w.heap.size u2 p rfl hown _ [c] (by simp [byteCells]) 1 1 rfl rfl (by simp; omega) (Nat.le_refl _) hb ?_; intro v3 w3 hown3 hb3))
        go_roundw
        case rel => exact ⟨k + 1, _, by omega, by go_num, by simp; omega, hE, hown3, hb3⟩
        case measure => simp [Lib.intOf]; omega
    · have hE : Hid (x = some p) := show _ = _ from Pl.qb_done (by omega) hp.out
      clear hp
      go_wp2
      go_ret2
      exact ⟨QbOut.yes hE.out hown, hb⟩
end Go.Proofs.YtajkahpkbeobaaaGreatDoor
namespace Go.Proofs.YtajkahpkbeobaaaGreatDoor
open Go.RowKit Go.Lib
namespace Pw
def bl (c : UInt8) : Bool := c == 32 || c == 9
/-- How many blanks stand ahead. -/
def gap : List UInt8 → Nat
  | [] => 0
  | c :: r => if bl c then gap r + 1 else 0
set_option maxRecDepth 20000 in
theorem gap_le : ∀ l : List UInt8, gap l ≤ l.length
  | [] => Nat.le_refl _
  | c :: r => by
    unfold gap
    split
    · exact Nat.succ_le_succ (gap_le r)
    · exact Nat.zero_le _
end Pw
set_option maxRecDepth 20000 in
theorem ext_tail2 (s : ByteArray) (k : Nat) : (s.extract k s.size).extract 1 (s.extract k s.size).size = s.extract (k + 1) s.size := by
  apply ByteArray.ext
  apply Array.ext
  · simp; omega
  · intro i h1 h2
    simp [Nat.add_assoc]
set_option maxRecDepth 20000 in
theorem ext_head (s : ByteArray) (k : Nat) (h : k < s.size) : (s.extract k s.size)[0]'(by simp; omega) = s[k] := by
  simp [ByteArray.getElem_extract]
set_option maxRecDepth 40000 in
set_option maxHeartbeats 2000000 in
theorem libTrimLeftAscii (s : ByteArray) (b : Nat) (w : World) (hset : ∀ x : UInt8, w.cell? ⟨b, x.toNat, none⟩ = some (.bool (Pw.bl x))) :
    Calls Tryz.prog 83 #[.string s, .pointer (some ⟨b, 0, none⟩)] w fun e w' => e = .returned (.string (s.extract (Pw.gap s.data.toList) s.size)) ∧ w' = w := by
  have Hset := mkH hset
  clear hset
  go_enter Tryz.func83, Tryz.ntmps83
  go_wp2
  go_loopw [0] (fun v wr => ∃ k : Nat, k ≤ s.size ∧ v = .string (s.extract k s.size) ∧ Hid (k + Pw.gap (s.data.toList.drop k) = Pw.gap s.data.toList) ∧ wr = w) (fun v _ => match v with | .string t => t.size | _ => 0)
  case atStart => exact ⟨0, Nat.zero_le _, by rw [ByteArray.extract_zero_size], mkH (by simp), rfl⟩
  case round =>
    obtain ⟨k, hk, rfl, hp, rfl⟩ := hrel
    have hsz : (s.extract k s.size).size = s.size - k := by simp
    have hll : s.data.toList.length = s.size := by simp
    by_cases hlt : k < s.size
    · have hat := ext_head s k hlt
      have hcut := ext_tail2 s k
      have hq := hp.out
      have hg : s.data.toList[k]'(by omega) = s[k] := by simp [ByteArray.getElem_eq_getElem_data]
      rw [List.drop_eq_getElem_cons (show k < s.data.toList.length by omega), Pw.gap, hg] at hq
      have hcon := Tryz.asciiSet_contains b s[k] _ wr (Hset.out s[k])
      obtain ⟨t, ht⟩ : ∃ t, t = s.extract k s.size := ⟨_, rfl⟩
      have hat' : ∀ h, t[0]'h = s[k] := by subst ht; intro h; exact hat
      have hsz' : t.size = s.size - k := by rw [ht]; exact hsz
      have hcut' : t.extract 1 t.size = s.extract (k + 1) s.size := by rw [ht]; exact hcut
      have Ht := mkH ht
      have hpos : 0 < t.size := by omega
      have hposI : (0 : Int) < (t.size : Int) := by omega
      rw [← ht]
      clear hat hcut hsz ht hp Hset hg
      cases hb : Pw.bl s[k]
      · rw [hb] at hq hcon
        have hE : Hid (Pw.gap s.data.toList = k) := mkH (by rw [← hq]; simp)
        clear hq hb
        go_wp2_with (go_at_call 98; go_must (refine hcon.mono ?_; rintro e w2 ⟨rfl, rfl⟩))
        go_ret
        rw [hE.out, ← Ht.out]
        exact ⟨rfl, rfl⟩
      · rw [hb] at hq hcon
        have hE : Hid (k + 1 + Pw.gap (s.data.toList.drop (k + 1)) = Pw.gap s.data.toList) := mkH (by rw [← hq]; simp; omega)
        clear hq hb
        go_wp2_with (go_at_call 98; go_must (refine hcon.mono ?_; rintro e w2 ⟨rfl, rfl⟩))
        go_roundw
        case rel => exact ⟨k + 1, by omega, by first | rfl | rw [hcut'] | rw [← hsz', hcut'], hE, trivial⟩
        case measure => simp; omega
    · obtain rfl : k = s.size := by omega
      have hE : Hid (Pw.gap s.data.toList = s.size) := mkH (by have := hp.out; rw [List.drop_eq_nil_of_le (by omega)] at this; exact this.symm)
      go_wp2
      go_ret
      rw [hE.out]
      exact ⟨rfl, rfl⟩
set_option maxRecDepth 20000 in
theorem blanks_setW (x : UInt8) : ([32, 9] : List UInt8).contains x = Pw.bl x := by
  by_cases h1 : x = 32 <;> by_cases h2 : x = 9 <;> simp [Pw.bl, h1, h2]
set_option maxRecDepth 40000 in
set_option maxHeartbeats 2000000 in
theorem libTrimLeft (s : ByteArray) (w : World) :
    Calls Tryz.prog 53 #[.string s, .string ⟨#[32, 9]⟩] w fun e w' => e = .returned (.string (s.extract (Pw.gap s.data.toList) s.size)) ∧ Below w.heap.size w w' := by
  by_cases h0 : s.size = 0
  · have hE := isEmpty_ofH s h0
    have hs0 : s.extract (Pw.gap s.data.toList) s.size = s := by
      apply ByteArray.ext
      apply Array.ext
      · simp; omega
      · intro i h1 h2; simp at h1; omega
    rw [hs0]
    go_enter Tryz.func53, Tryz.ntmps53
    go_wp2
    go_ret
    exact ⟨rfl, Below.refl _ _⟩
  · have hE := isEmpty_neH s h0
    have hz : ∀ w, (zeroValue 111).run Tryz.prog w = .ok (.agg (Array.replicate 256 (.bool false))) w := fun w => by kernel_rfl
    go_enter Tryz.func53, Tryz.ntmps53
    go_wp2_with fail
    refine (Tryz.strings_makeASCIISet hz ⟨#[32, 9]⟩ _ (by decide) (by intro j b hj; match j, hj with | 0, hj => cases hj; decide | 1, hj => cases hj; decide)).mono ?_
    rintro e w2 ⟨rfl, rfl⟩
    obtain ⟨W, hW⟩ : ∃ W, W = (w.alloc (.cells (setCells [32, 9]) 111)).alloc (.cells (Array.replicate 256 (.bool false)) 111) := ⟨_, rfl⟩
    have hbW : Below w.heap.size w W := by rw [hW]; exact ((Below.refl _ _).alloc (Nat.le_refl _) _).alloc (by simp) _
    have hgW : ((w.alloc (.cells (setCells [32, 9]) 111)).alloc (.cells (Array.replicate 256 (.bool false)) 111)).heap[w.heap.size + 1]? = some (.cells (Array.replicate 256 (.bool false)) 111 (0, 0)) := by
      have := heap_alloc_at (w.alloc (.cells (setCells [32, 9]) 111)) (.cells (Array.replicate 256 (.bool false)) 111)
      simpa using this
    have hgs := grown_setRow W (w.heap.size + 1) (setCells [32, 9])
    have hb2 := hbW.grown hgs hbW.size (fun j hj => by cases hj; exact Nat.le_succ _)
    have hset : ∀ x : UInt8, (W.setRow (w.heap.size + 1) (setCells [32, 9])).cell? ⟨w.heap.size + 1, x.toNat, none⟩ = some (.bool (Pw.bl x)) := by
      intro x
      rw [cell_setRow_same W _ _ _ _ 111 (0, 0) (by rw [hW]; exact hgW), setCells_at, blanks_setW]
    have hT := libTrimLeftAscii s (w.heap.size + 1) _ hset
    rw [hW] at hT hb2
    go_wp2_with (first | (refine wpL_store_row rfl 111 _ _ rfl (w.heap.size + 1) (setCells [32, 9]) rfl rfl 111 _ hgW (by rw [setCells_size]; kernel_rfl) (by rw [setCells_size]; simp) (setCells_one _) ?_) | (go_at_call 83; go_must (refine hT.mono ?_; rintro e w3 ⟨rfl, rfl⟩)))
    go_ret
    exact ⟨rfl, hb2⟩
end Go.Proofs.YtajkahpkbeobaaaGreatDoor
namespace Go.Proofs.YtajkahpkbeobaaaGreatDoor
open Go.RowKit Go.Lib
set_option maxRecDepth 20000 in
set_option maxHeartbeats 400000 in
theorem specBlankW (c : UInt8) (w : World) : Calls Tryz.prog 11 #[.int .u8 (c.toNat : Int)] w fun e w' => e = .returned (.bool (Pw.bl c)) ∧ w = w' := by
  have h8 : c.toNat < 256 := UInt8.toNat_lt _
  by_cases h1 : c = 32
  · subst h1
    go_enter Tryz.func11, Tryz.ntmps11
    go_wp2
    go_ret
    exact ⟨congrArg (fun b => Ending.returned (.bool b)) (by first | rfl | (simp; done) | (simp; omega)), rfl⟩
  · by_cases h2 : c = 9
    · subst h2
      go_enter Tryz.func11, Tryz.ntmps11
      go_wp2
      go_ret
      exact ⟨congrArg (fun b => Ending.returned (.bool b)) (by first | rfl | (simp; done) | (simp; omega)), rfl⟩
    · have hb : Pw.bl c = false := by simp [Pw.bl, h1, h2]
      have g1 : ¬ (c.toNat : Int) = 32 := fun h => h1 (UInt8.toNat_inj.1 (by simpa using (by omega : c.toNat = 32)))
      have g2 : ¬ (c.toNat : Int) = 9 := fun h => h2 (UInt8.toNat_inj.1 (by simpa using (by omega : c.toNat = 9)))
      rw [hb]
      go_enter Tryz.func11, Tryz.ntmps11
      go_wp2
      go_ret
      exact ⟨congrArg (fun b => Ending.returned (.bool b)) (by first | rfl | (simp; done) | (simp; omega)), rfl⟩
namespace Pl
def hexI (c : UInt8) : Int := match hexV c with | some d => (d : Int) | none => -1
set_option maxRecDepth 20000 in
theorem hexI_some {c : UInt8} {d : Nat} (h : hexV c = some d) : hexI c = d := by unfold hexI; rw [h]
set_option maxRecDepth 20000 in
theorem hexI_none {c : UInt8} (h : hexV c = none) : hexI c = -1 := by unfold hexI; rw [h]
set_option maxRecDepth 20000 in
theorem hex2_at (l : List UInt8) (i : Nat) (h : i + 2 < l.length) : hex2 (l.drop (i + 1)) = match hexV l[i + 1], hexV l[i + 2] with | some d, some e => some (d * 16 + e) | _, _ => none := by
  rw [List.drop_eq_getElem_cons (by omega), List.drop_eq_getElem_cons (by omega)]
  show hexNum [l[i + 1], l[i + 2]] 0 = _
  simp only [hexNum]
  cases hexV l[i + 1] <;> cases hexV l[i + 2] <;> simp
end Pl
set_option maxRecDepth 20000 in
set_option maxHeartbeats 1000000 in
theorem specHex (c : UInt8) (w : World) : Calls Tryz.prog 61 #[.int .u8 (c.toNat : Int)] w fun e w' => e = .returned (.int .i64 (Pl.hexI c)) ∧ w' = w := by
  have h8 : c.toNat < 256 := UInt8.toNat_lt _
  unfold Pl.hexI Pl.hexV
  by_cases h1 : 48 ≤ c.toNat ∧ c.toNat ≤ 57
  · rw [if_pos h1]
    obtain ⟨h1, h2⟩ := h1
    go_enter Tryz.func61, Tryz.ntmps61
    go_wp2
    go_ret
    exact ⟨congrArg (fun b => Ending.returned (.int .i64 b)) (by omega), rfl⟩
  · rw [if_neg h1]
    have h1' : c.toNat < 48 ∨ 57 < c.toNat := by omega
    by_cases h2 : 65 ≤ c.toNat ∧ c.toNat ≤ 70
    · rw [if_pos h2]
      obtain ⟨h2, h3⟩ := h2
      go_enter Tryz.func61, Tryz.ntmps61
      go_wp2
      go_ret
      exact ⟨congrArg (fun b => Ending.returned (.int .i64 b)) (by omega), rfl⟩
    · rw [if_neg h2]
      by_cases h3 : 97 ≤ c.toNat ∧ c.toNat ≤ 102
      · rw [if_pos h3]
        obtain ⟨h3, h4⟩ := h3
        go_enter Tryz.func61, Tryz.ntmps61
        go_wp2
        go_ret
        exact ⟨congrArg (fun b => Ending.returned (.int .i64 b)) (by omega), rfl⟩
      · rw [if_neg h3]
        have hz : c.toNat < 48 ∨ (57 < c.toNat ∧ c.toNat < 65) ∨ (70 < c.toNat ∧ c.toNat < 97) ∨ 102 < c.toNat := by omega
        clear h1 h1' h2 h3
        rcases hz with h1 | ⟨h1, h2⟩ | ⟨h1, h2⟩ | h1
        all_goals
          go_enter Tryz.func61, Tryz.ntmps61
          go_wp2
          go_ret
          exact ⟨rfl, rfl⟩
end Go.Proofs.YtajkahpkbeobaaaGreatDoor
namespace Go.Proofs.YtajkahpkbeobaaaGreatDoor
open Go.Lib
namespace Pw
def und (c : UInt8) : UInt8 := if c = 95 then 32 else c
/-- A word's bytes behind those that are there, as the specification takes them. -/
def wq (out : List UInt8) (l : List UInt8) : Option (List UInt8) :=
  match l with
  | [] => some out
  | c :: r => if c = 95 then wq (out ++ [32]) r else if c = 61 then (match Pl.hex2 r with | some n => wq (out ++ [UInt8.ofNat n]) (r.drop 2) | none => none) else wq (out ++ [c]) r
  termination_by l.length
  decreasing_by all_goals (simp; try omega)
set_option maxRecDepth 20000 in
theorem hexV_und (c : UInt8) : Pl.hexV (und c) = Pl.hexV c := by
  unfold und
  split
  · rename_i h
    subst h
    decide
  · rfl
set_option maxRecDepth 20000 in
theorem hex2_und (l : List UInt8) : Pl.hex2 (l.map und) = Pl.hex2 l := by
  match l with
  | [] => rfl
  | [a] => rfl
  | a :: b :: r =>
    show Pl.hexNum [und a, und b] 0 = Pl.hexNum [a, b] 0
    simp only [Pl.hexNum, hexV_und]
set_option maxRecDepth 20000 in
theorem und_eq (c : UInt8) (h : c ≠ 95) : und c = c := if_neg h
set_option maxRecDepth 20000 in
theorem qb_und (out : List UInt8) (l : List UInt8) : Pl.qb out (l.map und) = wq out l := by
  match l with
  | [] => rw [List.map_nil, Pl.qb, wq]
  | c :: r =>
    rw [List.map_cons, Pl.qb, wq]
    by_cases h1 : c = 95
    · subst h1
      rw [if_pos rfl, show und 95 = 32 from rfl, if_neg (by decide)]
      exact qb_und _ r
    · rw [if_neg h1, und_eq c h1]
      by_cases h2 : c = 61
      · rw [if_pos h2, if_pos h2, hex2_und]
        cases Pl.hex2 r with
        | none => rfl
        | some n =>
          dsimp only
          rw [← List.map_drop]
          exact qb_und _ (r.drop 2)
      · rw [if_neg h2, if_neg h2]
        exact qb_und _ r
  termination_by l.length
  decreasing_by all_goals (simp; try omega)
set_option maxRecDepth 20000 in
theorem wq_done {p : List UInt8} {x : Option (List UInt8)} {l : List UInt8} {k : Nat} (hk : l.length ≤ k) (hp : wq p (l.drop k) = x) : x = some p := by
  rw [List.drop_eq_nil_of_le hk, wq] at hp
  exact hp.symm
set_option maxRecDepth 20000 in
theorem wq_und {p : List UInt8} {x : Option (List UInt8)} {l : List UInt8} {k : Nat} (hk : k < l.length) (h : l[k] = 95) (hp : wq p (l.drop k) = x) : wq (p ++ [32]) (l.drop (k + 1)) = x := by
  rw [List.drop_eq_getElem_cons hk, wq, if_pos h] at hp
  exact hp
set_option maxRecDepth 20000 in
theorem wq_plain {p : List UInt8} {x : Option (List UInt8)} {l : List UInt8} {k : Nat} (hk : k < l.length) (h1 : l[k] ≠ 95) (h2 : l[k] ≠ 61) (hp : wq p (l.drop k) = x) : wq (p ++ [l[k]]) (l.drop (k + 1)) = x := by
  rw [List.drop_eq_getElem_cons hk, wq, if_neg h1, if_neg h2] at hp
  exact hp
set_option maxRecDepth 20000 in
theorem wq_hex {p : List UInt8} {x : Option (List UInt8)} {l : List UInt8} {k n : Nat} (hk : k < l.length) (h : l[k] = 61) (hn : Pl.hex2 (l.drop (k + 1)) = some n) (hp : wq p (l.drop k) = x) : wq (p ++ [UInt8.ofNat n]) (l.drop (k + 3)) = x := by
  rw [List.drop_eq_getElem_cons hk, wq, if_neg (by rw [h]; decide), if_pos h, hn] at hp
  dsimp only at hp
  rw [List.drop_drop] at hp
  exact hp
set_option maxRecDepth 20000 in
theorem wq_bad {p : List UInt8} {x : Option (List UInt8)} {l : List UInt8} {k : Nat} (hk : k < l.length) (h : l[k] = 61) (hn : Pl.hex2 (l.drop (k + 1)) = none) (hp : wq p (l.drop k) = x) : x = none := by
  rw [List.drop_eq_getElem_cons hk, wq, if_neg (by rw [h]; decide), if_pos h, hn] at hp
  exact hp.symm
end Pw
end Go.Proofs.YtajkahpkbeobaaaGreatDoor
