
/- The walks of the two Lines. -/
import Derived.Test.YtgabjiamabbheaaGreatDoorChecked
import Derived.Test.YtgabjiamabbheaaGreatDoorShelf
import Derived.Test.YtgabjiamabbheaaGreatDoorLinesPlain
import Derived.Test.YtgabjiamabbheaaGreatDoorLinesStrs
import Derived.WalkKit
import Derived.WalkSmall
import Derived.WalkLawsBesides
import Derived.WalkSpells
namespace Go.Proofs.YtgabjiamabbheaaGreatDoor
open Go.RowKit Go.Lib
set_option maxRecDepth 20000 in
theorem Tryz.info9 : (Tryz.prog.info? 9).map (fun i => (i.zero, i.size, i.bytes)) = some (some (.string ByteArray.empty), 1, 16) := by kernel_rfl
set_option maxRecDepth 20000 in
set_option maxHeartbeats 1000000 in
theorem specLines (s : ByteArray) (w : World) (hs : s.size ≤ 100000) :
    Calls Tryz.prog 41 #[.string s] w fun e w' => ∃ v, e = .returned v ∧ OwnS w.heap.size v (Pl.lines s.data.toList) w' ∧ Below w.heap.size w w' := by
  obtain ⟨i0, hi, hz0, hz1, hz2⟩ := info_parts Tryz.info9
  have hc0 : decide ((100000 : Int) < (s.size : Int)) = false := by simp; omega
  go_enter Tryz.func41, Tryz.ntmps41
  go_wp2
  go_loopw [3, 4, 5] (fun v f i wr => ∃ (a k : Nat) (ps : List (List UInt8)), a ≤ k ∧ k ≤ s.size ∧ f = .int .i64 a ∧ i = .int .i64 k ∧ ps.length ≤ k ∧ Hid (ps ++ Pl.lines (s.data.toList.drop a) = Pl.lines s.data.toList) ∧ Pl.NoCr (s.data.toList.drop a) (k - a) ∧ OwnS w.heap.size v ps wr ∧ Below w.heap.size w wr) (fun _ _ i _ => s.size - (RowKit.intOf i).toNat)
  case atStart => exact ⟨0, 0, [], Nat.le_refl _, Nat.zero_le _, rfl, rfl, by simp, rfl, Pl.NoCr.zero _, OwnS.made _ _ (Nat.le_refl _), (Below.refl _ _).alloc (Nat.le_refl _) _⟩
  case round =>
    obtain ⟨a, k, ps, hak, hk, rfl, rfl, hpl, hp, hno, hown, hb⟩ := hrel
    have hno := hno
    by_cases hlt : k < s.size
    · have h8 : s[k].toNat < 256 := UInt8.toNat_lt _
      by_cases h13 : ((s[k].toNat : Int) == 13) = true
      · by_cases hk1 : k + 1 < s.size
        · have hk1' : decide ((k : Int) + 1 < (s.size : Int)) = true := by simp; omega
          by_cases h10 : ((s[k + 1].toNat : Int) == 10) = true
          · have hcr : Hid (Pl.crlf s.data.toList k = true) := (Pl.crlf_iff _ _).2 ⟨by simpa using hk1, Pl.byte_eq _ 13 _ rfl h13, Pl.byte_eq _ 10 _ rfl h10⟩
            go_wp2_with (at_builtin; go_must (refine wp_appS (W := w) rfl _ _ 24 rfl i0 Tryz.underlying24 hi hz0 hz1 hz2 w.heap.size u3 ps rfl hown _ _ (Pl.ext_mk s a k) rfl (by omega) (Nat.le_refl _) hb ?_; intro v' w' hown' hb'))
            go_roundw
            case rel => exact ⟨k + 2, k + 2, _, Nat.le_refl _, by omega, by go_num, by go_num, by simp; omega, Pl.line_hit _ a k ps hak hno hcr.out hp, by rw [Nat.sub_self]; exact Pl.NoCr.zero _, hown', hb'⟩
            case measure => simp [RowKit.intOf]; omega
          · rw [Bool.not_eq_true] at h10
            have hcr : Hid (Pl.crlf s.data.toList k = false) := Pl.crlf_no10 _ _ (by simpa using hk1) (Pl.byte_ne _ 10 _ rfl h10)
            go_wp2
            go_roundw
            case rel => exact ⟨a, k + 1, ps, by omega, by omega, rfl, by go_num, by omega, hp, Pl.noCr_next _ a k hak hno hcr.out, hown, hb⟩
            case measure => simp [RowKit.intOf]; omega
        · have hk1' : decide ((k : Int) + 1 < (s.size : Int)) = false := by simp; omega
          have hcr : Hid (Pl.crlf s.data.toList k = false) := Pl.crlf_short _ _ (by simp; omega)
          go_wp2
          go_roundw
          case rel => exact ⟨a, k + 1, ps, by omega, by omega, rfl, by go_num, by omega, hp, Pl.noCr_next _ a k hak hno hcr.out, hown, hb⟩
          case measure => simp [RowKit.intOf]; omega
      · rw [Bool.not_eq_true] at h13
        have hcr : Hid (Pl.crlf s.data.toList k = false) := Pl.crlf_no13 _ _ (by simpa using hlt) (Pl.byte_ne _ 13 _ rfl h13)
        go_wp2
        go_roundw
        case rel => exact ⟨a, k + 1, ps, by omega, by omega, rfl, by go_num, by omega, hp, Pl.noCr_next _ a k hak hno hcr.out, hown, hb⟩
        case measure => simp [RowKit.intOf]; omega
    · by_cases ha : a < s.size
      · have hla : Hid (ps ++ [s.data.toList.drop a] = Pl.lines s.data.toList) := Pl.line_last _ a k ps (by simpa using ha) (by simp; omega) hno hp
        have hx : s.extract a s.size = ⟨(s.data.toList.drop a).toArray⟩ := by rw [Pl.ext_mk, List.take_of_length_le (by simp)]
        have hX : Hid (s.extract a s.size = ⟨(s.data.toList.drop a).toArray⟩) := hx
        clear hx hp
        go_wp2_with (at_builtin; go_must (refine wp_appS (W := w) rfl _ _ 24 rfl i0 Tryz.underlying24 hi hz0 hz1 hz2 w.heap.size u3 ps rfl hown _ _ hX.out rfl (by omega) (Nat.le_refl _) hb ?_; intro v' w' hown' hb'))
        go_ret
        rw [hla.out] at hown'
        exact ⟨_, rfl, hown', hb'⟩
      · have hla : Hid (ps = Pl.lines s.data.toList) := Pl.line_none _ a ps (by simp; omega) hp
        clear hp
        go_wp2
        go_ret
        rw [hla.out] at hown
        exact ⟨_, rfl, hown, hb⟩
set_option maxRecDepth 20000 in
theorem libCut (r a b : List UInt8) (c : Bool) (hcut : cut r Pl.crs = (a, b, c)) (m : Int) (w : World) (hr : r.length ≤ 100000) (hm : w.cell? ⟨0, 0, none⟩ = some (.int .i64 m)) :
    Calls Tryz.prog 83 #[.string ⟨r.toArray⟩, .string ⟨#[13, 10]⟩] w fun e w' => e = .returned (.tuple #[.string ⟨a.toArray⟩, .string ⟨b.toArray⟩, .bool c]) ∧ Below w.heap.size w w' := by
  refine (Tryz.strings_Cut ⟨r.toArray⟩ ⟨#[13, 10]⟩ m w (by simp [ByteArray.size]; omega) hm).mono ?_
  rintro e w' ⟨rfl, n, rfl⟩
  have e1 : cut (⟨r.toArray⟩ : ByteArray).data.toList (⟨#[13, 10]⟩ : ByteArray).data.toList = (a, b, c) := hcut
  rw [e1]
  exact ⟨rfl, below_drewN (Below.refl _ _) n⟩
set_option maxRecDepth 20000 in
theorem libCloneL (s : ByteArray) (w : World) (hs : s.size ≤ 100000) :
    Calls Tryz.prog 84 #[.string s] w fun e w' => e = .returned (.string s) ∧ Below w.heap.size w w' := by
  go_enter Tryz.func84, Tryz.ntmps84
  go_wp2_with fail
  refine (Tryz.stringslite_Clone s _ (by omega)).mono ?_
  rintro e w1 ⟨rfl, hb1⟩
  go_wp2
  go_ret
  exact ⟨rfl, hb1⟩
def strLenL : Value → Nat
  | .string b => b.size
  | _ => 0
set_option maxRecDepth 20000 in
theorem strLen_mkL (l : List UInt8) : strLenL (.string ⟨l.toArray⟩) = l.length := by
  show l.toArray.size = l.length
  simp
set_option maxRecDepth 20000 in
theorem zero_ltL {w : World} {x : Value} (h : w.cell? ⟨0, 0, none⟩ = some x) : 0 < w.heap.size := by
  by_cases hz : 0 < w.heap.size
  · exact hz
  · have : w.heap[0]? = none := Array.getElem?_eq_none (by omega)
    simp [World.cell?, this] at h
set_option maxRecDepth 20000 in
set_option maxHeartbeats 1000000 in
theorem implLines (s : ByteArray) (m : Int) (w : World) (hs : s.size ≤ 100000) (hm : w.cell? ⟨0, 0, none⟩ = some (.int .i64 m)) :
    Calls Tryz.prog 57 #[.string s] w fun e w' => ∃ v, e = .returned v ∧ OwnS w.heap.size v (Pl.lines s.data.toList) w' ∧ Below w.heap.size w w' := by
  obtain ⟨i0, hi, hz0, hz1, hz2⟩ := info_parts Tryz.info9
  have hc0 : decide ((100000 : Int) < (s.size : Int)) = false := by simp; omega
  have h0 := zero_ltL hm
  go_enter Tryz.func57, Tryz.ntmps57
  go_wp2
  go_loopw [0, 3] (fun t v wr => ∃ (r : List UInt8) (ps : List (List UInt8)), t = .string ⟨r.toArray⟩ ∧ ps.length + r.length ≤ s.size ∧ Hid (ps ++ Pl.lines r = Pl.lines s.data.toList) ∧ OwnS w.heap.size v ps wr ∧ Below w.heap.size w wr) (fun t _ _ => strLenL t)
  case atStart => exact ⟨s.data.toList, [], rfl, by simp, rfl, OwnS.nil _ _, Below.refl _ _⟩
  case round =>
    obtain ⟨r, ps, rfl, hpl, hp, hown, hb⟩ := hrel
    have hmr : wr.cell? ⟨0, 0, none⟩ = some (.int .i64 m) := (hb.cell (p := ⟨0, 0, none⟩) h0).trans hm
    have hszr := hb.size
    by_cases hr : r = []
    · subst hr
      have hla : Hid (ps = Pl.lines s.data.toList) := by rw [Pl.lines_nil] at hp; simpa [Hid] using hp
      clear hp
      go_wp2
      go_ret
      rw [hla.out] at hown
      exact ⟨_, rfl, hown, hb⟩
    · have hre : r.isEmpty = false := by simpa using hr
      obtain ⟨x, y, c, hcut⟩ : ∃ x y c, cut r Pl.crs = (x, y, c) := ⟨_, _, _, rfl⟩
      have hst := Pl.lines_step r hr
      have hrest := Pl.cut_rest r hr
      have hfst : x.length ≤ r.length := by
        have := Pl.cut_fst r
        rw [hcut] at this; exact this
      rw [hcut] at hst hrest
      simp only at hst hrest
      have hp2 : Hid ((ps ++ [x]) ++ Pl.lines y = Pl.lines s.data.toList) := by have := hp.out; rw [hst] at this; simpa [Hid] using this
      clear hst hp
      go_wp2_with fail
      refine (libCut r x y c hcut m _ (by omega) hmr).mono ?_
      rintro e w1 ⟨rfl, hb1⟩
      clear hcut
      go_wp2_with fail
      refine (libCloneL ⟨x.toArray⟩ _ (by simp [ByteArray.size]; omega)).mono ?_
      rintro e w2 ⟨rfl, hb2⟩
      have hb12 : Below wr.heap.size wr w2 := hb1.trans (hb2.mono hb1.size)
      have hown2 := hown.keep (Nat.le_refl _) hb12
      have hbw : Below w.heap.size w w2 := hb.trans (hb12.mono hszr)
      clear hown hb1 hb2 hb12 hb
      go_wp2_with (at_builtin; go_must (refine wp_appS (W := w) rfl _ _ 24 rfl i0 Tryz.underlying24 hi hz0 hz1 hz2 w.heap.size u3 ps rfl hown2 _ x rfl rfl (by omega) (Nat.le_refl _) hbw ?_; intro v' w' hown' hb'))
      go_roundw
      case rel => (repeat apply Exists.intro); exact ⟨⟨y, _, rfl, by simp; omega, hp2, hown', hb'⟩, rfl⟩
      case measure => simp [strLen_mkL]; omega
end Go.Proofs.YtgabjiamabbheaaGreatDoor
