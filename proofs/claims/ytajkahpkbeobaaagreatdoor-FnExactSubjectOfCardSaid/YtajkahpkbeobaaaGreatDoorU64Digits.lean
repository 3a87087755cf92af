
/- The walks of what UnBase64 calls: a digit's bits, the blanks left out, the last signs cut off, one group. -/
import Derived.Test.YtajkahpkbeobaaaGreatDoorU64Spec
import Derived.Deep.RegionWith
import Derived.Laws.BitsLemmas
import Derived.Lib.EndianBits
namespace Go.Proofs.YtajkahpkbeobaaaGreatDoor
open Go.RowKit Go.Lib
def sixV (c : UInt8) : Value := if Pu.val c < 64 then .tuple #[.int .u32 (Pu.val c : Int), .bool true] else .tuple #[.int .u32 0, .bool false]
set_option maxRecDepth 20000 in
set_option maxHeartbeats 1000000 in
theorem implSix (c : UInt8) (w : World) : Calls Tryz.prog 138 #[.int .u8 (c.toNat : Int)] w fun e w' => e = .returned (sixV c) ∧ w = w' := by
  have h8 : c.toNat < 256 := UInt8.toNat_lt _
  have Hv : Hid (sixV c = if Pu.val c < 64 then .tuple #[.int .u32 (Pu.val c : Int), .bool true] else .tuple #[.int .u32 0, .bool false]) := rfl
  have Hp : Hid (Pu.val c = if 65 ≤ c.toNat ∧ c.toNat ≤ 90 then c.toNat - 65 else if 97 ≤ c.toNat ∧ c.toNat ≤ 122 then c.toNat - 71 else if 48 ≤ c.toNat ∧ c.toNat ≤ 57 then c.toNat + 4 else if c.toNat = 43 then 62 else if c.toNat = 47 then 63 else 64) := rfl
  generalize sixV c = z at *
  generalize Pu.val c = v at *
  generalize c.toNat = n at *
  by_cases h1 : 65 ≤ n
  · by_cases h2 : n ≤ 90
    · have hv : v = n - 65 := by rw [Hp.out, if_pos (by omega)]
      have hz : Hid (z = .tuple #[.int .u32 ((n : Int) - 65), .bool true]) := by rw [Hv.out, if_pos (by omega), show (v : Int) = (n : Int) - 65 by omega]; exact rfl
      clear hv
      go_enter Tryz.func138, Tryz.ntmps138
      go_wp2
      refine bodyPost_ret (v := .tuple #[.int .u32 ((n : Int) - 65), .bool true]) (by simp [results, Tryz.results138, go_sem]) rfl ⟨by rw [hz.out], rfl⟩
    · by_cases h3 : 97 ≤ n
      · by_cases h4 : n ≤ 122
        · have hv : v = n - 71 := by rw [Hp.out, if_neg (by omega), if_pos (by omega)]
          have hz : Hid (z = .tuple #[.int .u32 ((n : Int) - 97 + 26), .bool true]) := by rw [Hv.out, if_pos (by omega), show (v : Int) = (n : Int) - 97 + 26 by omega]; exact rfl
          clear hv
          go_enter Tryz.func138, Tryz.ntmps138
          go_wp2
          refine bodyPost_ret (v := .tuple #[.int .u32 ((n : Int) - 97 + 26), .bool true]) (by simp [results, Tryz.results138, go_sem]) rfl ⟨by rw [hz.out], rfl⟩
        · have hv : v = 64 := by rw [Hp.out, if_neg (by omega), if_neg (by omega), if_neg (by omega), if_neg (by omega), if_neg (by omega)]
          have hz : Hid (z = .tuple #[.int .u32 (0), .bool false]) := by rw [Hv.out, if_neg (by omega)]; exact rfl
          clear hv
          have b1 : ((n : Int) == 43) = false := by rw [beq_eq_false_iff_ne]; omega
          have b2 : ((n : Int) == 47) = false := by rw [beq_eq_false_iff_ne]; omega
          go_enter Tryz.func138, Tryz.ntmps138
          go_wp2
          refine bodyPost_ret (v := .tuple #[.int .u32 (0), .bool false]) (by simp [results, Tryz.results138, go_sem]) rfl ⟨by rw [hz.out], rfl⟩
      · have hv : v = 64 := by rw [Hp.out, if_neg (by omega), if_neg (by omega), if_neg (by omega), if_neg (by omega), if_neg (by omega)]
        have hz : Hid (z = .tuple #[.int .u32 (0), .bool false]) := by rw [Hv.out, if_neg (by omega)]; exact rfl
        clear hv
        have b1 : ((n : Int) == 43) = false := by rw [beq_eq_false_iff_ne]; omega
        have b2 : ((n : Int) == 47) = false := by rw [beq_eq_false_iff_ne]; omega
        go_enter Tryz.func138, Tryz.ntmps138
        go_wp2
        refine bodyPost_ret (v := .tuple #[.int .u32 (0), .bool false]) (by simp [results, Tryz.results138, go_sem]) rfl ⟨by rw [hz.out], rfl⟩
  · by_cases h3 : 48 ≤ n
    · by_cases h4 : n ≤ 57
      · have hv : v = n + 4 := by rw [Hp.out, if_neg (by omega), if_neg (by omega), if_pos (by omega)]
        have hz : Hid (z = .tuple #[.int .u32 ((n : Int) - 48 + 52), .bool true]) := by rw [Hv.out, if_pos (by omega), show (v : Int) = (n : Int) - 48 + 52 by omega]; exact rfl
        clear hv
        go_enter Tryz.func138, Tryz.ntmps138
        go_wp2
        refine bodyPost_ret (v := .tuple #[.int .u32 ((n : Int) - 48 + 52), .bool true]) (by simp [results, Tryz.results138, go_sem]) rfl ⟨by rw [hz.out], rfl⟩
      · have hv : v = 64 := by rw [Hp.out, if_neg (by omega), if_neg (by omega), if_neg (by omega), if_neg (by omega), if_neg (by omega)]
        have hz : Hid (z = .tuple #[.int .u32 (0), .bool false]) := by rw [Hv.out, if_neg (by omega)]; exact rfl
        clear hv
        have b1 : ((n : Int) == 43) = false := by rw [beq_eq_false_iff_ne]; omega
        have b2 : ((n : Int) == 47) = false := by rw [beq_eq_false_iff_ne]; omega
        go_enter Tryz.func138, Tryz.ntmps138
        go_wp2
        refine bodyPost_ret (v := .tuple #[.int .u32 (0), .bool false]) (by simp [results, Tryz.results138, go_sem]) rfl ⟨by rw [hz.out], rfl⟩
    · by_cases h43 : n = 43
      · have hv : v = 62 := by rw [Hp.out, if_neg (by omega), if_neg (by omega), if_neg (by omega), if_pos (by omega)]
        have hz : Hid (z = .tuple #[.int .u32 (62), .bool true]) := by rw [Hv.out, if_pos (by omega), show (v : Int) = 62 by omega]; exact rfl
        clear hv
        have b1 : ((n : Int) == 43) = true := by rw [beq_iff_eq]; omega
        go_enter Tryz.func138, Tryz.ntmps138
        go_wp2
        refine bodyPost_ret (v := .tuple #[.int .u32 (62), .bool true]) (by simp [results, Tryz.results138, go_sem]) rfl ⟨by rw [hz.out], rfl⟩
      · by_cases h47 : n = 47
        · have hv : v = 63 := by rw [Hp.out, if_neg (by omega), if_neg (by omega), if_neg (by omega), if_neg (by omega), if_pos (by omega)]
          have hz : Hid (z = .tuple #[.int .u32 (63), .bool true]) := by rw [Hv.out, if_pos (by omega), show (v : Int) = 63 by omega]; exact rfl
          clear hv
          have b1 : ((n : Int) == 43) = false := by rw [beq_eq_false_iff_ne]; omega
          have b2 : ((n : Int) == 47) = true := by rw [beq_iff_eq]; omega
          go_enter Tryz.func138, Tryz.ntmps138
          go_wp2
          refine bodyPost_ret (v := .tuple #[.int .u32 (63), .bool true]) (by simp [results, Tryz.results138, go_sem]) rfl ⟨by rw [hz.out], rfl⟩
        · have hv : v = 64 := by rw [Hp.out, if_neg (by omega), if_neg (by omega), if_neg (by omega), if_neg (by omega), if_neg (by omega)]
          have hz : Hid (z = .tuple #[.int .u32 (0), .bool false]) := by rw [Hv.out, if_neg (by omega)]; exact rfl
          clear hv
          have b1 : ((n : Int) == 43) = false := by rw [beq_eq_false_iff_ne]; omega
          have b2 : ((n : Int) == 47) = false := by rw [beq_eq_false_iff_ne]; omega
          go_enter Tryz.func138, Tryz.ntmps138
          go_wp2
          refine bodyPost_ret (v := .tuple #[.int .u32 (0), .bool false]) (by simp [results, Tryz.results138, go_sem]) rfl ⟨by rw [hz.out], rfl⟩
set_option maxRecDepth 20000 in
set_option maxHeartbeats 1000000 in
theorem trimByte (g off cap : Nat) (l : List UInt8) (w : World) (hl : l.length ≤ 4) (hcap : l.length ≤ cap)
    (hc : ∀ (j : Nat) (hj : j < l.length), w.cell? ⟨g, off + j, none⟩ = some (.int .u8 (l[j].toNat : Int))) :
    Calls Tryz.prog 134 #[.slice (some ⟨g, off, none⟩) l.length cap, .int .u8 61] w fun e w' => ∃ m, m ≤ l.length ∧ e = .returned (.slice (some ⟨g, off, none⟩) m cap) ∧ (∀ (j : Nat) (hj : j < l.length), m ≤ j → l[j] = 61) ∧ (∀ (hj : m - 1 < l.length), 0 < m → ¬ l[m - 1] = 61) ∧ w = w' := by
  have Hc := mkH hc
  clear hc
  go_enter Tryz.func134, Tryz.ntmps134
  go_wp2
  go_loop [0] (fun v => ∃ m, m ≤ l.length ∧ v = .slice (some ⟨g, off, none⟩) m cap ∧ (∀ (j : Nat) (hj : j < l.length), m ≤ j → l[j] = 61)) (fun v => match v with | .slice _ n _ => n | _ => 0)
  case atStart => exact ⟨l.length, Nat.le_refl _, rfl, fun j hj h => by omega⟩
  case round =>
    obtain ⟨m, hm, rfl, hno⟩ := hrel
    have Hno := mkH hno
    clear hno
    match m, hm, Hno with
    | 0, hm, Hno =>
      go_wp2
      go_ret
      exact ⟨0, hm, rfl, Hno.out, fun _ h => absurd h (by omega), rfl⟩
    | m + 1, hm, Hno =>
      have hcell := Hc.out m (by omega)
      have h8 : (l[m]'(by omega)).toNat < 256 := UInt8.toNat_lt _
      by_cases h61 : (l[m]'(by omega)).toNat = 61
      · have hb : (((l[m]'(by omega)).toNat : Int) == 61) = true := by rw [beq_iff_eq]; omega
        go_wp2
        go_round
        case rel =>
          refine ⟨m, by omega, by go_num, ?_⟩
          intro j hj hmj
          by_cases e : j = m
          · subst e; exact UInt8.toNat.inj h61
          · exact Hno.out j hj (by omega)
        case measure => simp
      · have hb : (((l[m]'(by omega)).toNat : Int) == 61) = false := by rw [beq_eq_false_iff_ne]; omega
        go_wp2
        go_ret
        refine ⟨m + 1, by omega, rfl, Hno.out, fun hj _ h => h61 ?_, rfl⟩
        have h' : l[m]'(by omega) = 61 := h
        rw [h']; rfl
set_option maxRecDepth 100000 in
set_option maxHeartbeats 1000000 in
theorem trimRight (g off cap : Nat) (l : List UInt8) (w : World) (hl : l.length ≤ 4) (h0 : 0 < l.length) (hcap : l.length ≤ cap)
    (hc : ∀ (j : Nat) (hj : j < l.length), w.cell? ⟨g, off + j, none⟩ = some (.int .u8 (l[j].toNat : Int))) :
    Calls Tryz.prog 124 #[.slice (some ⟨g, off, none⟩) l.length cap, .string ⟨#[61]⟩] w fun e w' => ∃ m, m ≤ l.length ∧ e = .returned (.slice (some ⟨g, off, none⟩) m cap) ∧ (∀ (j : Nat) (hj : j < l.length), m ≤ j → l[j] = 61) ∧ (∀ (hj : m - 1 < l.length), 0 < m → ¬ l[m - 1] = 61) ∧ w = w' := by
  have ht := mkH (trimByte g off cap l w hl hcap hc)
  clear hc
  have hb : ((l.length : Int) == 0) = false := by rw [beq_eq_false_iff_ne]; omega
  go_enter Tryz.func124, Tryz.ntmps124
  go_wp2_with fail
  refine ht.out.mono ?_
  rintro e w2 ⟨m, hm, rfl, h1, h2, rfl⟩
  have H1 := mkH h1
  have H2 := mkH h2
  clear h1 h2
  go_wp2
  go_ret
  exact ⟨m, hm, rfl, H1.out, H2.out, rfl⟩
set_option maxRecDepth 20000 in
theorem specSpace (c : UInt8) (w : World) : Calls Tryz.prog 90 #[.int .u8 (c.toNat : Int)] w fun e w' => e = .returned (.bool (c.toNat == 32 || c.toNat == 9)) ∧ w = w' := by
  have h8 : c.toNat < 256 := UInt8.toNat_lt _
  by_cases h1 : c.toNat = 32
  · have b1 : ((c.toNat : Int) == 32) = true := by rw [beq_iff_eq]; omega
    have hz : Hid ((c.toNat == 32 || c.toNat == 9) = true) := by rw [h1]; exact rfl
    go_enter Tryz.func90, Tryz.ntmps90
    go_wp2
    go_ret
    rw [hz.out]
    exact ⟨rfl, rfl⟩
  · have b1 : ((c.toNat : Int) == 32) = false := by rw [beq_eq_false_iff_ne]; omega
    have hz : Hid ((c.toNat == 32 || c.toNat == 9) = (c.toNat == 9)) := by rw [show (c.toNat == 32) = false from beq_eq_false_iff_ne.2 h1]; exact rfl
    have hz2 : Hid (((c.toNat : Int) == 9) = (c.toNat == 9)) := by rw [Hid, Bool.eq_iff_iff, beq_iff_eq, beq_iff_eq]; omega
    go_enter Tryz.func90, Tryz.ntmps90
    go_wp2
    go_ret
    rw [hz.out, hz2.out]
    exact ⟨rfl, rfl⟩
set_option maxRecDepth 20000 in
theorem int_beq (a b : Nat) : (((a : Nat) : Int) == (b : Int)) = (a == b) := by rw [Bool.eq_iff_iff, beq_iff_eq, beq_iff_eq]; omega
set_option maxRecDepth 20000 in
set_option maxHeartbeats 2000000 in
theorem implStrip (s : ByteArray) (w : World) (hs : s.size ≤ 100000) :
    Calls Tryz.prog 123 #[.string s] w fun e w' => ∃ v, e = .returned v ∧ Own w.heap.size v (Pu.strip s.data.toList) w' ∧ Below w.heap.size w w' := by
  obtain ⟨i0, hi, hz0, hz1, hz2⟩ := info_parts Tryz.info5
  go_enter Tryz.func123, Tryz.ntmps123
  go_wp2
  go_loopw [3, 8] (fun v i wr => ∃ (k : Nat), k ≤ s.size ∧ i = .int .i64 k ∧ Own w.heap.size v (Pu.strip (s.data.toList.take k)) wr ∧ Below w.heap.size w wr) (fun _ i _ => s.size - (RowKit.intOf i).toNat)
  case atStart => exact ⟨0, Nat.zero_le _, rfl, Own.nil _ _, Below.refl _ _⟩
  case round =>
    obtain ⟨k, hk, rfl, hown, hb⟩ := hrel
    by_cases hlt : k < s.size
    · have h8 : s[k].toNat < 256 := UInt8.toNat_lt _
      have hstep : Hid (Pu.strip (s.data.toList.take (k + 1)) = Pu.strip (s.data.toList.take k) ++ (if Pu.isSpace s[k] then [] else [s[k]])) := Pu.strip_take _ k (by simp; omega)
      have hlen := Pu.strip_len s.data.toList k
      have hsp0 : Hid (Pu.isSpace s[k] = ((s[k].toNat == 32 || s[k].toNat == 9) || s[k].toNat == 13 || s[k].toNat == 10)) := by unfold Pu.isSpace; exact rfl
      have hcall := mkH (specSpace s[k])
      have e13 : ((s[k].toNat : Int) != 13) = !(s[k].toNat == 13) := congrArg not (int_beq _ 13)
      have e10 : ((s[k].toNat : Int) != 10) = !(s[k].toNat == 10) := congrArg not (int_beq _ 10)
      generalize (s[k].toNat == 32 || s[k].toNat == 9) = b1 at *
      generalize (s[k].toNat == 13) = b2 at *
      generalize (s[k].toNat == 10) = b3 at *
      generalize Pu.strip (s.data.toList.take k) = p at *
      by_cases hall : (b1 || b2 || b3) = true
      · have hst : Hid (Pu.strip (s.data.toList.take (k + 1)) = p) := by rw [hstep.out, hsp0.out, hall]; simp [Hid]
        clear hstep hsp0
        cases b1 <;> cases b2 <;> cases b3 <;> simp at hall
        all_goals
          simp only [Bool.not_true, Bool.not_false] at e13 e10
          go_wp2_with fail
          refine (hcall.out _).mono ?_
          rintro e w2 ⟨rfl, rfl⟩
          go_wp2
          go_roundw
          case rel => exact ⟨k + 1, by omega, by go_num, by rw [hst.out]; exact hown, hb⟩
          case measure => simp [RowKit.intOf]; omega
      · have hst : Hid (Pu.strip (s.data.toList.take (k + 1)) = p ++ [s[k]]) := by rw [hstep.out, hsp0.out]; simp [hall, Hid]
        clear hstep hsp0
        cases b1 <;> cases b2 <;> cases b3 <;> simp at hall
        simp only [Bool.not_false] at e13 e10
        go_wp2_with fail
        refine (hcall.out _).mono ?_
        rintro e w2 ⟨rfl, rfl⟩
        go_wp2_with (at_builtin; go_must (refine wp_app (W := w) rfl _ _ 35 rfl i0 Tryz.underlying35 hi hz0 hz1 hz2 w.heap.size u3 p rfl hown _ [s[k]] rfl 1 1 rfl rfl (by simp; omega) (Nat.le_refl _) hb ?_; intro v' w' hown' hb'))
        go_roundw
        case rel => exact ⟨k + 1, by omega, by go_num, by rw [hst.out]; exact hown', hb'⟩
        case measure => simp [RowKit.intOf]; omega
    · rw [List.take_of_length_le (by simp; omega)] at hown
      go_wp2
      go_ret
      exact ⟨_, rfl, hown, hb⟩
namespace Pu
def acc (l : List UInt8) : Nat := l.foldl (fun n c => n * 64 + val c) 0
set_option maxRecDepth 20000 in
theorem acc_take (l : List UInt8) (k : Nat) (h : k < l.length) : acc (l.take (k + 1)) = acc (l.take k) * 64 + val l[k] := by
  unfold acc
  rw [List.take_succ_eq_append_getElem h, List.foldl_append]
  rfl
def shifted (l : List UInt8) : Nat := acc l * (if l.length = 2 then 4096 else if l.length = 3 then 64 else 1)
/-- The digits make a group of their own. -/
def Good (l : List UInt8) : Prop := 2 ≤ l.length ∧ (∀ (j : Nat) (hj : j < l.length), val l[j] < 64) ∧ (l.length = 2 → shifted l / 256 % 256 = 0 ∧ shifted l % 256 = 0) ∧ (l.length = 3 → shifted l % 256 = 0)
end Pu
set_option maxRecDepth 20000 in
theorem or6 (a b : Nat) (ha : a < 67108864) (hb : b < 64) : bits .or .u32 ((a : Int) * 64) (b : Int) = ((a * 64 + b : Nat) : Int) := by
  rw [bits_join .u32 32 (by decide) wraps_u32 6 _ _ (by omega) (by omega) (by omega) (by omega) (by omega) (by omega)]
  omega
/-- What a group's call gives. -/
def GroupOut (l : List UInt8) (w : World) (e : Ending) (w' : World) : Prop :=
  (∃ (x y z : Int) (b : Bool), e = .returned (.tuple #[.agg #[.int .u8 x, .int .u8 y, .int .u8 z], .bool b]) ∧
      (b = true → Pu.Good l ∧ x = ((Pu.shifted l / 65536 : Nat) : Int) ∧ y = ((Pu.shifted l / 256 % 256 : Nat) : Int) ∧ z = ((Pu.shifted l % 256 : Nat) : Int)) ∧ (b = false → ¬ Pu.Good l)) ∧ Below w.heap.size w w'
set_option maxRecDepth 20000 in
theorem GroupOut.bad {l : List UInt8} {w w' : World} (x y z : Int) (h : ¬ Pu.Good l) (hb : Below w.heap.size w w') : GroupOut l w (.returned (.tuple #[.agg #[.int .u8 x, .int .u8 y, .int .u8 z], .bool false])) w' :=
  ⟨⟨x, y, z, false, rfl, (fun h => by cases h), fun _ => h⟩, hb⟩
set_option maxRecDepth 20000 in
theorem GroupOut.good {l : List UInt8} {w w' : World} (x y z : Int) (h : Pu.Good l) (hx : x = ((Pu.shifted l / 65536 : Nat) : Int)) (hy : y = ((Pu.shifted l / 256 % 256 : Nat) : Int)) (hz : z = ((Pu.shifted l % 256 : Nat) : Int)) (hb : Below w.heap.size w w') : GroupOut l w (.returned (.tuple #[.agg #[.int .u8 x, .int .u8 y, .int .u8 z], .bool true])) w' :=
  ⟨⟨x, y, z, true, rfl, fun _ => ⟨h, hx, hy, hz⟩, (fun h => by cases h)⟩, hb⟩
set_option maxRecDepth 100000 in
set_option maxHeartbeats 4000000 in
theorem implGroupU (g off cap : Nat) (l : List UInt8) (w : World) (hl : l.length ≤ 4) (hg : g < w.heap.size)
    (hc : ∀ (j : Nat) (hj : j < l.length), w.cell? ⟨g, off + j, none⟩ = some (.int .u8 (l[j].toNat : Int))) :
    Calls Tryz.prog 125 #[.slice (some ⟨g, off, none⟩) l.length cap] w fun e w' => GroupOut l w e w' := by
  have Hc := mkH hc
  clear hc
  have Hgd : Hid (∀ (h2 : ¬ 2 ≤ l.length), ¬ Pu.Good l) := fun h2 h => h2 h.1
  have Hgb : Hid (∀ (j : Nat) (hj : j < l.length), ¬ Pu.val l[j] < 64 → ¬ Pu.Good l) := fun j hj hv h => hv (h.2.1 j hj)
  have hbel := mkH (fun c => (Below.refl w.heap.size w).alloc (Nat.le_refl _) (.cells c 145))
  obtain ⟨n, hn⟩ : ∃ n, n = l.length := ⟨_, rfl⟩
  rw [← hn] at hl ⊢
  have Hn := mkH hn
  clear hn
  by_cases h2 : n < 2
  · go_enter Tryz.func125, Tryz.ntmps125
    go_wp2
    refine bodyPost_ret (v := .tuple #[.agg #[.int .u8 0, .int .u8 0, .int .u8 0], .bool false]) (by simp [results, Tryz.results125, go_sem]) rfl (GroupOut.bad _ _ _ (Hgd.out (by rw [← Hn.out]; omega)) (hbel.out _))
  · go_enter Tryz.func125, Tryz.ntmps125
    go_wp2_with fail
    go_loop [4, 17] (fun b i => ∃ (k m : Nat), k ≤ n ∧ i = .int .i64 k ∧ b = .int .u32 m ∧ Hid (m = Pu.acc (l.take k)) ∧ (∀ (j : Nat) (hj : j < l.length), j < k → Pu.val l[j] < 64) ∧ m < 16777216 ∧ (k ≤ 3 → m < 262144) ∧ (k ≤ 2 → m < 4096) ∧ (k ≤ 1 → m < 64) ∧ (k ≤ 0 → m = 0)) (fun _ i => n - (RowKit.intOf i).toNat)
    case atStart => exact ⟨0, 0, by omega, rfl, rfl, rfl, fun j hj h => by omega, by omega, by omega, by omega, by omega, by omega⟩
    case round =>
      obtain ⟨k, m, hk, rfl, rfl, hm, hall, b4, b3, b2, b1, b0⟩ := hrel
      have Hall := mkH hall
      clear hall
      by_cases hlt : k < n
      · have hcell := Hc.out k (by rw [← Hn.out]; exact hlt)
        have hst := mkH (Pu.acc_take l k (by rw [← Hn.out]; exact hlt))
        have hgb := mkH (Hgb.out k (by rw [← Hn.out]; exact hlt))
        have hcell2 : (w.alloc (.cells #[.int .u8 0, .int .u8 0, .int .u8 0] 145)).cell? ⟨g, off + k, none⟩ = some (.int .u8 ((l[k]'(by rw [← Hn.out]; exact hlt)).toNat : Int)) := by
          rw [← hcell]; exact (hbel.out _).cell (p := ⟨g, off + k, none⟩) hg
        have Hs := mkH (implSix (l[k]'(by rw [← Hn.out]; exact hlt)))
        generalize hlk : (l[k]'(by rw [← Hn.out]; exact hlt)) = c at *
        have Hlk := mkH hlk
        clear hlk
        have hsv : Hid (sixV c = if Pu.val c < 64 then .tuple #[.int .u32 (Pu.val c : Int), .bool true] else .tuple #[.int .u32 0, .bool false]) := rfl
        by_cases hv : Pu.val c < 64
        · rw [if_pos hv] at hsv
          have hor := or6 m (Pu.val c) (by omega) hv
          have Hor := mkH hor
          go_wp2_with fail
          refine (Hs.out _).mono ?_
          rintro e w2 ⟨rfl, rfl⟩
          rw [hsv.out]
          go_wp2_with fail
          go_round
          case rel =>
            refine ⟨k + 1, m * 64 + Pu.val c, by omega, by go_num, by go_num, ?_, ?_, by omega, by omega, by omega, by omega, by omega⟩
            · rw [hst.out, ← hm.out]; exact rfl
            · intro j hj hjk
              by_cases e : j = k
              · subst e; rw [Hlk.out]; exact hv
              · exact Hall.out j hj (by omega)
          case measure => simp [RowKit.intOf]; omega
        · rw [if_neg hv] at hsv
          go_wp2_with fail
          refine (Hs.out _).mono ?_
          rintro e w2 ⟨rfl, rfl⟩
          rw [hsv.out]
          go_wp2
          refine bodyPost_ret (v := .tuple #[.agg #[.int .u8 0, .int .u8 0, .int .u8 0], .bool false]) (by simp [results, Tryz.results125, go_sem]) rfl (GroupOut.bad _ _ _ (hgb.out hv) (hbel.out _))
      · have hkn : k = n := by omega
        subst hkn
        have hacc : Hid (m = Pu.acc l) := by rw [hm.out, List.take_of_length_le (by rw [← Hn.out]; omega)]; exact rfl
        have Hall2 : Hid (∀ (j : Nat) (hj : j < l.length), Pu.val l[j] < 64) := fun j hj => Hall.out j hj (by rw [Hn.out]; exact hj)
        have hcs : k = 2 ∨ k = 3 ∨ k = 4 := by omega
        clear hm Hall Hgb Hgd
        rcases hcs with rfl | rfl | rfl
        · have hln := Hn.out
          have hsh : Hid (Pu.shifted l = m * 4096) := by
            unfold Pu.shifted
            rw [← hln, ← hacc.out]
            simp [Hid]
          clear hln
          by_cases hsp : m * 4096 / 256 % 256 = 0
          · have hgood : Hid (Pu.Good l) := ⟨by rw [← Hn.out]; omega, Hall2.out, fun _ => by rw [hsh.out]; omega, fun h => by rw [← Hn.out] at h; omega⟩
            have fy : (((m : Int) * 4096 / 256 % 256) != 0) = false := by rw [bne, beq_iff_eq.2 (by omega)]; rfl
            have fz : (((m : Int) * 4096 % 256) != 0) = false := by rw [bne, beq_iff_eq.2 (by omega)]; rfl
            go_wp2_with fail
            go_loop [54] (fun i => i = .int .i64 0 ∨ i = .int .i64 1 ∨ i = .int .i64 2) (fun i => 4 - (RowKit.intOf i).toNat)
            case atStart => exact .inl rfl
            case round =>
              rcases hrel with rfl | rfl | rfl
              · go_wp2
                go_round
                case rel => exact .inr (.inl rfl)
                case measure => simp [RowKit.intOf]
              · go_wp2
                go_round
                case rel => exact .inr (.inr rfl)
                case measure => simp [RowKit.intOf]
              · go_wp2
                refine bodyPost_ret (v := .tuple #[.agg #[.int .u8 ((m : Int) * 4096 / 65536), .int .u8 ((m : Int) * 4096 / 256 % 256), .int .u8 ((m : Int) * 4096 % 256)], .bool true]) (by simp [results, Tryz.results125, go_sem]) rfl (GroupOut.good _ _ _ hgood.out (by rw [hsh.out]; omega) (by rw [hsh.out]; omega) (by rw [hsh.out]; omega) (hbel.out _))
          · have hbad : Hid (¬ Pu.Good l) := by
              intro h
              have h3 := (h.2.2.1 Hn.out.symm).1
              rw [hsh.out] at h3
              omega
            have fy : (((m : Int) * 4096 / 256 % 256) != 0) = true := by rw [bne, beq_eq_false_iff_ne.2 (by omega)]; rfl
            go_wp2_with fail
            go_loop [54] (fun i => i = .int .i64 0) (fun i => 4 - (RowKit.intOf i).toNat)
            case atStart => exact rfl
            case round =>
              subst hrel
              go_wp2
              refine bodyPost_ret (v := .tuple #[.agg #[.int .u8 ((m : Int) * 4096 / 65536), .int .u8 ((m : Int) * 4096 / 256 % 256), .int .u8 ((m : Int) * 4096 % 256)], .bool false]) (by simp [results, Tryz.results125, go_sem]) rfl (GroupOut.bad _ _ _ hbad.out (hbel.out _))
        · have hln := Hn.out
          have hsh : Hid (Pu.shifted l = m * 64) := by
            unfold Pu.shifted
            rw [← hln, ← hacc.out]
            simp [Hid]
          clear hln
          by_cases hsp : m * 64 % 256 = 0
          · have hgood : Hid (Pu.Good l) := ⟨by rw [← Hn.out]; omega, Hall2.out, fun h => by rw [← Hn.out] at h; omega, fun _ => by rw [hsh.out]; omega⟩
            have fz : (((m : Int) * 64 % 256) != 0) = false := by rw [bne, beq_iff_eq.2 (by omega)]; rfl
            go_wp2_with fail
            go_loop [54] (fun i => i = .int .i64 0 ∨ i = .int .i64 1) (fun i => 4 - (RowKit.intOf i).toNat)
            case atStart => exact .inl rfl
            case round =>
              rcases hrel with rfl | rfl
              · go_wp2
                go_round
                case rel => exact .inr rfl
                case measure => simp [RowKit.intOf]
              · go_wp2
                refine bodyPost_ret (v := .tuple #[.agg #[.int .u8 ((m : Int) * 64 / 65536), .int .u8 ((m : Int) * 64 / 256 % 256), .int .u8 ((m : Int) * 64 % 256)], .bool true]) (by simp [results, Tryz.results125, go_sem]) rfl (GroupOut.good _ _ _ hgood.out (by rw [hsh.out]; omega) (by rw [hsh.out]; omega) (by rw [hsh.out]; omega) (hbel.out _))
          · have hbad : Hid (¬ Pu.Good l) := by
              intro h
              have h3 := h.2.2.2 Hn.out.symm
              rw [hsh.out] at h3
              omega
            have fy : (((m : Int) * 64 % 256) != 0) = true := by rw [bne, beq_eq_false_iff_ne.2 (by omega)]; rfl
            go_wp2_with fail
            go_loop [54] (fun i => i = .int .i64 0) (fun i => 4 - (RowKit.intOf i).toNat)
            case atStart => exact rfl
            case round =>
              subst hrel
              go_wp2
              refine bodyPost_ret (v := .tuple #[.agg #[.int .u8 ((m : Int) * 64 / 65536), .int .u8 ((m : Int) * 64 / 256 % 256), .int .u8 ((m : Int) * 64 % 256)], .bool false]) (by simp [results, Tryz.results125, go_sem]) rfl (GroupOut.bad _ _ _ hbad.out (hbel.out _))
        · have hln := Hn.out
          have hsh : Hid (Pu.shifted l = m) := by
            unfold Pu.shifted
            rw [← hln, ← hacc.out]
            simp [Hid]
          clear hln
          have hgood : Hid (Pu.Good l) := ⟨by rw [← Hn.out]; omega, Hall2.out, fun h => by rw [← Hn.out] at h; omega, fun h => by rw [← Hn.out] at h; omega⟩
          go_wp2_with fail
          go_loop [54] (fun i => i = .int .i64 0) (fun i => 4 - (RowKit.intOf i).toNat)
          case atStart => exact rfl
          case round =>
            subst hrel
            go_wp2
            refine bodyPost_ret (v := .tuple #[.agg #[.int .u8 ((m : Int) / 65536), .int .u8 ((m : Int) / 256 % 256), .int .u8 ((m : Int) % 256)], .bool true]) (by simp [results, Tryz.results125, go_sem]) rfl (GroupOut.good _ _ _ hgood.out (by rw [hsh.out]; omega) (by rw [hsh.out]; omega) (by rw [hsh.out]; omega) (hbel.out _))
end Go.Proofs.YtajkahpkbeobaaaGreatDoor
