
/- The program's reader of a script: texts in quotes, digits. -/

/- Lists of texts and of numbers between two blocks; laws of the law's helpers over them, for the texts that tools/gen/structs.py writes. -/

/- Lists of texts that a call has made by appends. -/

/- Lists of numbers (int64) that a call has made: appended to, marked, the marks asked for. -/

/- An append of one number, of one text. -/
import Derived.Test.YtlphojaeaogehaaGreatDoorRpLex
import Derived.Test.YtlphojaeaogehaaGreatDoorRfParse
import Derived.Deep.OwnRows
import Derived.Lib.QuietBelow
import Derived.Deep.QuietTactic
import Derived.BigQuiet
namespace Go.Proofs.YtlphojaeaogehaaGreatDoor
open Go.RowKit Go.Lib
variable {R : List Value × TypeId}
/-- The panic of a scanner's fault. -/
abbrev faultAt (b : Nat) : Ending := .panicked [{ v := .iface 44 (.agg #[.int .i64 3, .int .i64 b]), recovered := false }]
namespace Rf
set_option maxRecDepth 20000 in
theorem pq_quote (l : List UInt8) (k : Nat) (h : k < l.length) (hc : Pl.b l k = 34) : qd (l.drop k) = some ([], 1) := by
  rw [drop_b l k h, hc]
  cases l.drop (k + 1) with
  | nil => rfl
  | cons d r => rfl
set_option maxRecDepth 20000 in
theorem pq_end (l : List UInt8) (k : Nat) (h : k + 1 = l.length) (hc : Pl.b l k = 92) : qd (l.drop k) = none := by
  rw [drop_b l k (by omega), hc, List.drop_eq_nil_of_le (by omega)]
  rfl
set_option maxRecDepth 20000 in
theorem pq_back (l : List UInt8) (k : Nat) (h : k + 1 < l.length) (hc : Pl.b l k = 92) : qd (l.drop k) = (qd (l.drop (k + 2))).map fun x => (Pl.b l (k + 1) :: x.1, x.2 + 2) := by
  rw [drop_b l k (by omega), hc, drop_b l (k + 1) h]
  rfl
set_option maxRecDepth 20000 in
theorem pq_byte (l : List UInt8) (k : Nat) (h : k < l.length) (h1 : Pl.b l k ≠ 34) (h2 : Pl.b l k ≠ 92) : qd (l.drop k) = (qd (l.drop (k + 1))).map fun x => (Pl.b l k :: x.1, x.2 + 1) := by
  rw [drop_b l k h]
  generalize Pl.b l k = c at *
  have e1 : (c == 34) = false := by simpa using h1
  have e2 : (c == 92) = false := by simpa using h2
  cases l.drop (k + 1) with
  | nil =>
    show (if (c == 34) = true then some ([], 1) else none) = none
    rw [e1]
    rfl
  | cons d r =>
    show (if (c == 34) = true then some ([], 1) else if (c == 92) = true then (qd r).map fun x => (d :: x.1, x.2 + 2) else (qd (d :: r)).map fun x => (c :: x.1, x.2 + 1)) = _
    rw [e1, e2]
    rfl
/-- What has been read of a text in quotes. -/
def QAt (l : List UInt8) (p k : Nat) (o : List UInt8) : Prop := qd (l.drop (p + 1)) = (qd (l.drop k)).map fun x => (o ++ x.1, x.2 + (k - (p + 1)))
set_option maxRecDepth 20000 in
theorem QAt.start (l : List UInt8) (p : Nat) : QAt l p (p + 1) [] := by
  unfold QAt
  cases qd (l.drop (p + 1)) <;> simp
set_option maxRecDepth 20000 in
theorem QAt.more {l : List UInt8} {p k d : Nat} {o : List UInt8} {c : UInt8} (h : QAt l p k o) (hk : p + 1 ≤ k) (hq : qd (l.drop k) = (qd (l.drop (k + d))).map fun x => (c :: x.1, x.2 + d)) : QAt l p (k + d) (o ++ [c]) := by
  unfold QAt at *
  rw [h, hq]
  cases qd (l.drop (k + d)) with
  | none => rfl
  | some x => simp; omega
end Rf
set_option maxRecDepth 20000 in
theorem Own.far {B g : Nat} {v : Value} {p : List UInt8} {w w' : World} (h : Own B v p w) (hg : w.grownBy w' (some g)) (hB : g < B) : Own B v p w' := by
  refine World.ownsRow.kept h hg ?_
  cases ho : v.ownBlock with
  | none => exact .inl rfl
  | some k => exact .inr (fun e => by have := (World.ownsRow.lt h k ho).1; cases e; omega)
set_option maxRecDepth 20000 in
set_option maxHeartbeats 4000000 in
theorem scQuoted (g : Nat) (s : ByteArray) (p b : Nat) (w : World) (hs : s.size ≤ 100000) (hp : p < s.size) (h : Sc R w g s p b) :
    Calls Tryz.prog 92 #[scp g] w fun e w' => w.grownBy w' (some g) ∧ ((∃ t k, Rf.qd (s.data.toList.drop (p + 1)) = some (t, k) ∧ e = .returned (.string ⟨t.toArray⟩) ∧ Sc R w' g s (p + 1 + k) b) ∨ (Rf.qd (s.data.toList.drop (p + 1)) = none ∧ e = faultAt b)) := by
  obtain ⟨i0, hi, hy0, hy1, hy2⟩ := info_parts Tryz.info5
  obtain ⟨l, hl⟩ : ∃ l, s.data.toList = l := ⟨_, rfl⟩
  have hll : l.length = s.size := by rw [← hl]; simp
  rw [hl]
  have hbs : ∀ k (h : k < s.size), s[k] = Pl.b l k := fun k h => by
    subst hl
    exact (Pl.b_lt _ k (by simpa using h)).symm
  have kN := mkHid (scNextYes g s p b w hs h hp)
  have hgB := h.lt
  have Hbs := mkHid hbs
  clear h hbs hl
  go_enter Tryz.func92, Tryz.ntmps92
  go_wp2_with (go_at_call 78; fail)
  refine kN.out.mono ?_
  rintro e w1 ⟨rfl, s1, g1⟩
  have H0 : Hid (∃ k o, p + 1 ≤ k ∧ k ≤ s.size ∧ o.length ≤ k ∧ Rf.QAt l p k o ∧ Own w.heap.size (.slice none 0 0) o w1 ∧ Sc R w1 g s k b ∧ w.grownBy w1 (some g)) := ⟨p + 1, [], Nat.le_refl _, by omega, by simp, Rf.QAt.start l p, Own.nil _ _, s1, g1⟩
  clear kN s1 g1
  go_wp2
  go_loopw [3] (fun ov wr => ∃ (k : Nat) (o : List UInt8), p + 1 ≤ k ∧ k ≤ s.size ∧ o.length ≤ k ∧ Rf.QAt l p k o ∧ Own w.heap.size ov o wr ∧ Sc R wr g s k b ∧ w.grownBy wr (some g)) (fun _ wr => s.size - atOf wr g)
  case atStart =>
    obtain ⟨k, o, h⟩ := H0.out
    exact ⟨k, o, h⟩
  case round =>
    clear H0
    obtain ⟨k, o, hpk, hk, hol, hQ, hown, hsc, hgr⟩ := hrel
    have hat := mkHid hsc.at
    replace hQ := mkHid hQ
    have Hgr := mkHid hgr
    by_cases hlt : k < s.size
    · have kN := mkHid (scNextYes g s k b wr hs hsc hlt)
      have h8 : s[k].toNat < 256 := UInt8.toNat_lt _
      have hbk := Hbs.out k hlt
      clear hsc hgr
      by_cases h34 : Pl.b l k = 34
      · have e34 : s[k] = 34 := hbk.trans h34
        have hres : Hid (Rf.qd (l.drop (p + 1)) = some (o, 1 + (k - (p + 1)))) := by
          show _ = _
          rw [hQ.out, Rf.pq_quote l k (by omega) h34]
          simp
        clear h34 hbk hQ
        generalize hsk : s[k] = c at *
        subst e34
        go_wp2_with (go_at_call 78; fail)
        refine kN.out.mono ?_
        rintro e w2 ⟨rfl, s2, g2⟩
        have hown2 : Own w.heap.size u3 o w2 := hown.far g2 hgB
        have hbk := hown2.back (P := Tryz.prog) 59 9 Tryz.underlying59 Tryz.underlying5 Tryz.underlying9
        have G2 := mkHid (grown_trans Hgr.out g2)
        have S2 := mkHid s2
        rw [show (((34 : UInt8).toNat : Nat) : Int) = 34 from rfl]
        clear kN Hgr g2 s2 hown hown2 hat
        go_wp2
        go_ret
        exact ⟨G2.out, .inl ⟨o, _, hres.out, rfl, by rw [show p + 1 + (1 + (k - (p + 1))) = k + 1 by omega]; exact S2.out⟩⟩
      · have n34 : ((s[k].toNat : Int) == 34) = false := by
          rw [beq_eq_false_iff_ne]
          intro e
          rw [hbk] at e
          exact h34 (UInt8.toNat_inj.1 (by have : (34 : UInt8).toNat = 34 := rfl; omega))
        by_cases h92 : Pl.b l k = 92
        · have e92 : s[k] = 92 := hbk.trans h92
          by_cases hlt2 : k + 1 < s.size
          · have hbk2 := Hbs.out (k + 1) hlt2
            have hQ2 : Hid (Rf.QAt l p (k + 2) (o ++ [s[k + 1]])) := by
              rw [hbk2]
              exact hQ.out.more hpk (Rf.pq_back l k (by omega) h92)
            have kM := mkHid (fun (W : World) (h : Sc R W g s (k + 1) b) => scNextYes g s (k + 1) b W hs h hlt2)
            have h82 : s[k + 1].toNat < 256 := UInt8.toNat_lt _
            clear h34 h92 hbk hbk2 hQ
            generalize hsk : s[k] = c at *
            subst e92
            generalize hsk2 : s[k + 1] = d at *
            go_wp2_with (go_at_call 78; fail)
            refine kN.out.mono ?_
            rintro e w2 ⟨rfl, s2, g2⟩
            rw [show (((92 : UInt8).toNat : Nat) : Int) = 92 from rfl]
            go_wp2_with (go_at_call 78; fail)
            refine (kM.out _ s2).mono ?_
            rintro e w3 ⟨rfl, s3, g3⟩
            have hown2 : Own w.heap.size u3 o w3 := (hown.far g2 hgB).far g3 hgB
            have G2 := mkHid (grown_trans Hgr.out (grown_trans g2 g3))
            have S2 := mkHid s3
            have hw2 : w.heap.size ≤ w3.heap.size := G2.out.size
            clear kN kM Hgr g2 s2 g3 s3 hown
            go_wp2_with (at_builtin; go_must (refine wp_app (W := w3) rfl _ _ 59 rfl i0 Tryz.underlying59 hi hy0 hy1 hy2 w.heap.size u3 o rfl hown2 _ [d] rfl 1 1 rfl rfl (by simp; omega) hw2 (Below.refl _ _) ?_; intro v' w' hown' hb'))
            have S3 : Sc R w' g s (k + 2) b := ⟨by rw [hb'.block g (by have := G2.out.size; omega)]; exact S2.out.blk⟩
            have G3 : w.grownBy w' (some g) := ⟨hb'.os.trans G2.out.os, hb'.tape.trans G2.out.tape, hb'.output.trans G2.out.output, Nat.le_trans G2.out.size hb'.size, fun i hi hr => (hb'.block i hi).trans (G2.out.block i hi hr)⟩
            have HM : Hid (s.size - atOf w' g < s.size - atOf wr g) := by
              show _ < _
              rw [S3.at, hat.out]
              omega
            have HI : Hid (∃ (k : Nat) (o : List UInt8), p + 1 ≤ k ∧ k ≤ s.size ∧ o.length ≤ k ∧ Rf.QAt l p k o ∧ Own w.heap.size v' o w' ∧ Sc R w' g s k b ∧ w.grownBy w' (some g)) := ⟨k + 2, o ++ [d], by omega, by omega, by simp; omega, hQ2.out, hown', S3, G3⟩
            clear hown' hb' S3 G3
            go_roundw
            case rel =>
              obtain ⟨k, o, h⟩ := HI.out
              exact ⟨k, o, h⟩
            case measure => exact HM.out
          · have hres : Hid (Rf.qd (l.drop (p + 1)) = none) := by
              show _ = _
              rw [hQ.out, Rf.pq_end l k (by omega) h92]
              rfl
            have kM := mkHid (fun (W : World) (h : Sc R W g s (k + 1) b) => scNextEnd g s (k + 1) b W h (by omega))
            clear h34 h92 hbk hQ
            generalize hsk : s[k] = c at *
            subst e92
            go_wp2_with (go_at_call 78; fail)
            refine kN.out.mono ?_
            rintro e w2 ⟨rfl, s2, g2⟩
            rw [show (((92 : UInt8).toNat : Nat) : Int) = 92 from rfl]
            go_wp2_with (go_at_call 78; fail)
            refine (kM.out _ s2).mono ?_
            rintro e w3 ⟨rfl, hb3⟩
            exact ⟨rfl, grown_trans Hgr.out (grown_trans g2 (grown_below hb3)), .inr ⟨hres.out, rfl⟩⟩
        · have n92 : ((s[k].toNat : Int) == 92) = false := by
            rw [beq_eq_false_iff_ne]
            intro e
            rw [hbk] at e
            exact h92 (UInt8.toNat_inj.1 (by have : (92 : UInt8).toNat = 92 := rfl; omega))
          have hQ2 : Hid (Rf.QAt l p (k + 1) (o ++ [s[k]])) := by
            rw [hbk]
            exact hQ.out.more hpk (Rf.pq_byte l k (by omega) h34 h92)
          clear h34 h92 hbk hQ
          generalize hsk : s[k] = c at *
          go_wp2_with (go_at_call 78; fail)
          refine kN.out.mono ?_
          rintro e w2 ⟨rfl, s2, g2⟩
          have hown2 : Own w.heap.size u3 o w2 := hown.far g2 hgB
          have G2 := mkHid (grown_trans Hgr.out g2)
          have S2 := mkHid s2
          have hw2 : w.heap.size ≤ w2.heap.size := G2.out.size
          clear kN Hgr g2 s2 hown
          go_wp2_with (at_builtin; go_must (refine wp_app (W := w2) rfl _ _ 59 rfl i0 Tryz.underlying59 hi hy0 hy1 hy2 w.heap.size u3 o rfl hown2 _ [c] rfl 1 1 rfl rfl (by simp; omega) hw2 (Below.refl _ _) ?_; intro v' w' hown' hb'))
          have S3 : Sc R w' g s (k + 1) b := ⟨by rw [hb'.block g (by have := G2.out.size; omega)]; exact S2.out.blk⟩
          have G3 : w.grownBy w' (some g) := ⟨hb'.os.trans G2.out.os, hb'.tape.trans G2.out.tape, hb'.output.trans G2.out.output, Nat.le_trans G2.out.size hb'.size, fun i hi hr => (hb'.block i hi).trans (G2.out.block i hi hr)⟩
          have HM : Hid (s.size - atOf w' g < s.size - atOf wr g) := by
            show _ < _
            rw [S3.at, hat.out]
            omega
          have HI : Hid (∃ (k : Nat) (o : List UInt8), p + 1 ≤ k ∧ k ≤ s.size ∧ o.length ≤ k ∧ Rf.QAt l p k o ∧ Own w.heap.size v' o w' ∧ Sc R w' g s k b ∧ w.grownBy w' (some g)) := ⟨k + 1, o ++ [c], by omega, by omega, by simp; omega, hQ2.out, hown', S3, G3⟩
          clear hown' hb' S3 G3
          go_roundw
          case rel =>
            obtain ⟨k, o, h⟩ := HI.out
            exact ⟨k, o, h⟩
          case measure => exact HM.out
    · have hres : Hid (Rf.qd (l.drop (p + 1)) = none) := by
        show _ = _
        rw [hQ.out, List.drop_eq_nil_of_le (by omega)]
        rfl
      have kM := mkHid (scNextEnd g s k b wr hsc (by omega))
      clear hsc hgr hQ
      go_wp2_with (go_at_call 78; fail)
      refine kM.out.mono ?_
      rintro e w2 ⟨rfl, hb2⟩
      exact ⟨rfl, grown_trans Hgr.out (grown_below hb2), .inr ⟨hres.out, rfl⟩⟩
set_option maxRecDepth 20000 in
set_option maxHeartbeats 2000000 in
theorem scDigits (g : Nat) (s : ByteArray) (p b : Nat) (w : World) (hs : s.size ≤ 100000) (hp : p ≤ s.size) (h : Sc R w g s p b) :
    Calls Tryz.prog 76 #[scp g] w fun e w' => w.grownBy w' (some g) ∧ ((Pl.stop Rf.digK s.data.toList p - p ≤ 9 ∧ e = .returned (.string (s.extract p (Pl.stop Rf.digK s.data.toList p))) ∧ Sc R w' g s (Pl.stop Rf.digK s.data.toList p) b) ∨ (¬ Pl.stop Rf.digK s.data.toList p - p ≤ 9 ∧ e = faultAt b)) := by
  have kP := mkHid (scPass kindDig g s p b w hs hp h)
  have hle := Pl.stop_le Rf.digK s.data.toList p (by simpa using hp)
  have hsl : s.data.toList.length = s.size := by simp
  rw [hsl] at hle
  clear h hsl
  obtain ⟨q, hq⟩ : ∃ q, Pl.stop Rf.digK s.data.toList p = q := ⟨_, rfl⟩
  rw [hq] at kP hle ⊢
  clear hq
  obtain ⟨x, hx⟩ : ∃ x, s.extract p q = x := ⟨_, rfl⟩
  have hxs : x.size = q - p := by rw [← hx, ByteArray.size_extract]; omega
  rw [hx] at kP ⊢
  by_cases h9 : q - p ≤ 9
  · have d9 : decide ((x.size : Int) ≤ 9) = true := decide_eq_true (by omega)
    have kN := mkHid (fun (W : World) => scNeedYes g W)
    clear hxs hx
    go_enter Tryz.func76, Tryz.ntmps76
    go_wp2_with (go_at_call 70; fail)
    refine kP.out.mono ?_
    rintro e w1 ⟨rfl, s1, g1⟩
    replace s1 := mkHid s1
    replace g1 := mkHid g1
    go_wp2_with (go_at_call 59; fail)
    refine (kN.out _).mono ?_
    rintro e w2 ⟨rfl, rfl⟩
    go_wp2
    go_ret
    exact ⟨g1.out, .inl ⟨h9, rfl, s1.out⟩⟩
  · have d9 : decide ((x.size : Int) ≤ 9) = false := decide_eq_false (by omega)
    have kN := mkHid (fun (W : World) (h : Sc R W g s q b) => scNeedNo g s q b W h)
    clear hxs hx
    go_enter Tryz.func76, Tryz.ntmps76
    go_wp2_with (go_at_call 70; fail)
    refine kP.out.mono ?_
    rintro e w1 ⟨rfl, s1, g1⟩
    go_wp2_with (go_at_call 59; fail)
    refine (kN.out _ s1).mono ?_
    rintro e w2 ⟨rfl, rfl⟩
    exact ⟨rfl, g1, .inr ⟨h9, rfl⟩⟩
set_option maxRecDepth 20000 in
set_option maxHeartbeats 2000000 in
theorem scQuotedText (g : Nat) (s : ByteArray) (p b : Nat) (w : World) (hs : s.size ≤ 100000) (hp : p < s.size) (h : Sc R w g s p b) :
    Calls Tryz.prog 74 #[scp g] w fun e w' => w.grownBy w' (some g) ∧ ((∃ t k, Rf.qd (s.data.toList.drop (p + 1)) = some (t, k) ∧ t.length ≤ 1000 ∧ e = .returned (.string ⟨t.toArray⟩) ∧ Sc R w' g s (p + 1 + k) b) ∨ ((∀ t k, Rf.qd (s.data.toList.drop (p + 1)) = some (t, k) → ¬ t.length ≤ 1000) ∧ e = faultAt b)) := by
  have kQ := mkHid (scQuoted g s p b w hs hp h)
  clear h
  go_enter Tryz.func74, Tryz.ntmps74
  go_wp2_with (go_at_call 92; fail)
  refine kQ.out.mono ?_
  rintro e w1 ⟨g1, ⟨t, k, hq, rfl, s1⟩ | ⟨hq, rfl⟩⟩
  · have hts : (⟨t.toArray⟩ : ByteArray).size = t.length := by simp [ByteArray.size]
    obtain ⟨x, hx⟩ : ∃ x : ByteArray, ⟨t.toArray⟩ = x := ⟨_, rfl⟩
    rw [hx] at hts ⊢
    replace hq := mkHid hq
    replace g1 := mkHid g1
    replace hx := mkHid hx
    by_cases h9 : t.length ≤ 1000
    · have d9 : decide ((x.size : Int) ≤ 1000) = true := decide_eq_true (by omega)
      have kN := mkHid (fun (W : World) => scNeedYes g W)
      replace s1 := mkHid s1
      clear hts
      go_wp2_with (go_at_call 59; fail)
      refine (kN.out _).mono ?_
      rintro e w2 ⟨rfl, rfl⟩
      go_wp2
      go_ret
      exact ⟨g1.out, .inl ⟨t, k, hq.out, h9, congrArg (fun z => Ending.returned (.string z)) hx.out.symm, s1.out⟩⟩
    · have d9 : decide ((x.size : Int) ≤ 1000) = false := decide_eq_false (by omega)
      have kN := mkHid (scNeedNo g s _ b w1 s1)
      clear hts
      go_wp2_with (go_at_call 59; fail)
      refine kN.out.mono ?_
      rintro e w2 ⟨rfl, rfl⟩
      exact ⟨rfl, g1.out, .inr ⟨fun t' k' hq' => (by rw [hq.out] at hq'; cases hq'; exact h9), rfl⟩⟩
  · exact ⟨rfl, g1, .inr ⟨fun t' k' hq' => (by rw [hq] at hq'; cases hq'), rfl⟩⟩
end Go.Proofs.YtlphojaeaogehaaGreatDoor
namespace Go.Proofs.YtlphojaeaogehaaGreatDoor
open Go.RowKit Go.Lib Go.Maps
set_option maxRecDepth 20000 in
theorem add_blockG (a : Addr) (n : Nat) : (a.add n).block = a.block := by unfold Addr.add; split <;> rfl
/-- The blocks from lo on and below hi are the same. -/
def Same (lo hi : Nat) (w w' : World) : Prop := ∀ k, lo ≤ k → k < hi → w'.heap[k]? = w.heap[k]?
set_option maxRecDepth 20000 in
theorem Same.cell {lo hi : Nat} {w w' : World} (h : Same lo hi w w') {p : Addr} (h1 : lo ≤ p.block) (h2 : p.block < hi) : w'.cell? p = w.cell? p := World.cell?_of_block (w := w) (h p.block h1 h2)
set_option maxRecDepth 20000 in
theorem Same.of_below {lo hi B : Nat} {w w' : World} (h : Below B w w') (hB : hi ≤ B) : Same lo hi w w' := fun k _ h2 => h.block k (Nat.lt_of_lt_of_le h2 hB)
set_option maxRecDepth 20000 in
theorem Same.gr {lo hi g : Nat} {w w' : World} (h : w.grownBy w' (some g)) (hg : g < lo) (hh : hi ≤ w.heap.size) : Same lo hi w w' := fun k h1 h2 => h.block k (Nat.lt_of_lt_of_le h2 hh) (by intro e; cases e; omega)
set_option maxRecDepth 20000 in
theorem grG_trans {a b c : World} {r : Option Nat} (h : a.grownBy b r) (k : b.grownBy c r) : a.grownBy c r :=
  ⟨k.os.trans h.os, k.tape.trans h.tape, k.output.trans h.output, Nat.le_trans h.size k.size, fun i hi hr => (k.block i (Nat.lt_of_lt_of_le hi h.size) hr).trans (h.block i hi hr)⟩
set_option maxRecDepth 20000 in
theorem hp_setG (w : World) (g j k : Nat) (v : Value) (h : g ≠ k) : (w.setCell ⟨g, j, none⟩ v).heap[k]? = w.heap[k]? := by
  simp [World.setCell, Array.getElem?_modify, h]
set_option maxRecDepth 20000 in
theorem grG_set (w : World) (g j : Nat) (v : Value) : w.grownBy (w.setCell ⟨g, j, none⟩ v) (some g) :=
  ⟨rfl, rfl, rfl, by simp [World.setCell], fun k _ hr => hp_setG _ _ _ _ _ (fun e => hr (by rw [e]))⟩
/-- All blocks from lo on are cells, and none of them is frozen. -/
def Soft (lo : Nat) (w : World) : Prop := ∀ k, lo ≤ k → k < w.heap.size → ∃ cs t, w.heap[k]? = some (.cells cs t (0, 0))
set_option maxRecDepth 20000 in
theorem Soft.refl (w : World) : Soft w.heap.size w := fun k h1 h2 => by omega
set_option maxRecDepth 20000 in
theorem Soft.alloc {lo : Nat} {w : World} (h : Soft lo w) (cs : Array Value) (t : TypeId) : Soft lo (w.alloc (.cells cs t)) := by
  intro k h1 h2
  by_cases hk : k < w.heap.size
  · rw [heap_alloc_old _ _ _ hk]
    exact h k h1 hk
  · rw [World.size_alloc] at h2
    have : k = w.heap.size := by omega
    rw [this]
    exact ⟨cs, t, heap_alloc_at _ _⟩
set_option maxRecDepth 20000 in
theorem Soft.set {lo : Nat} {w : World} (h : Soft lo w) (g j : Nat) (v : Value) : Soft lo (w.setCell ⟨g, j, none⟩ v) := by
  intro k h1 h2
  have h3 : k < w.heap.size := by simpa [World.setCell] using h2
  obtain ⟨cs, t, e⟩ := h k h1 h3
  by_cases hg : g = k
  · subst hg
    exact ⟨_, t, by simp [World.setCell, Array.getElem?_modify, e]; rfl⟩
  · rw [hp_setG _ _ _ _ _ hg]
    exact ⟨cs, t, e⟩
set_option maxRecDepth 20000 in
theorem Soft.setRow {lo : Nat} {w : World} (h : Soft lo w) (g : Nat) (cs : Array Value) : Soft lo (w.setRow g cs) := by
  intro k h1 h2
  have h3 : k < w.heap.size := by simpa using h2
  obtain ⟨c0, t, e⟩ := h k h1 h3
  by_cases hg : k = g
  · subst hg
    exact ⟨cs, t, setRow_heap _ _ _ _ _ _ e⟩
  · rw [setRow_other w g k cs hg]
    exact ⟨c0, t, e⟩
set_option maxRecDepth 20000 in
theorem Soft.call {lo : Nat} {w w' : World} (h : Soft lo w) (hb : Below w.heap.size w w') (h' : Soft w.heap.size w') : Soft lo w' := by
  intro k h1 h2
  by_cases hk : k < w.heap.size
  · rw [hb.block k hk]
    exact h k h1 hk
  · exact h' k (by omega) h2
set_option maxRecDepth 20000 in
theorem three_blocks {w V : World} {G : Nat} {o1 o2 o3 : Obj} (hG : w.heap.size = G) (hV : V = ((w.alloc o1).alloc o2).alloc o3) : Below G w V ∧ G + 3 ≤ V.heap.size ∧ V.heap[G]? = some o1 ∧ V.heap[G + 1]? = some o2 ∧ V.heap[G + 1 + 1]? = some o3 := by
  subst hV hG
  refine ⟨(((Below.refl _ _).alloc (Nat.le_refl _) _).alloc (by simp) _).alloc (by simp; omega) _, by simp, ?_, ?_, ?_⟩
  · rw [heap_alloc_old _ _ _ (by simp; omega), heap_alloc_old _ _ _ (by simp)]
    exact heap_alloc_at _ _
  · rw [heap_alloc_old _ _ _ (by simp)]
    have := heap_alloc_at (w.alloc o1) o2
    rw [World.size_alloc] at this
    exact this
  · have := heap_alloc_at ((w.alloc o1).alloc o2) o3
    rw [World.size_alloc, World.size_alloc] at this
    exact this
set_option maxRecDepth 20000 in
theorem two_blocks {w V : World} {o1 o2 : Obj} (hV : V = (w.alloc o1).alloc o2) : Below w.heap.size w V ∧ w.heap.size + 2 ≤ V.heap.size ∧ V.heap[w.heap.size]? = some o1 ∧ V.heap[w.heap.size + 1]? = some o2 := by
  subst hV
  refine ⟨((Below.refl _ _).alloc (Nat.le_refl _) _).alloc (by simp) _, by simp, ?_, ?_⟩
  · rw [heap_alloc_old _ _ _ (by simp)]
    exact heap_alloc_at _ _
  · have := heap_alloc_at (w.alloc o1) o2
    rw [World.size_alloc] at this
    exact this
set_option maxRecDepth 20000 in
theorem prod_le {n b : Nat} (h : n ≤ 1048576) (hb : b ≤ 400) : n * b ≤ 140737488351232 := Nat.le_trans (Nat.mul_le_mul h hb) (by decide)
def TxL (lo hi : Nat) (w : World) (o : Option Addr) (F : List ByteArray) : Prop := ∀ i (h : i < F.length), ∃ a, o = some a ∧ lo ≤ a.block ∧ a.block < hi ∧ w.cell? (a.add i) = some (.string F[i])
def InL (lo hi : Nat) (w : World) (o : Option Addr) (F : List Int) : Prop := ∀ i (h : i < F.length), ∃ a, o = some a ∧ lo ≤ a.block ∧ a.block < hi ∧ w.cell? (a.add i) = some (.int .i64 F[i])
set_option maxRecDepth 20000 in
theorem TxL.same {lo hi : Nat} {w w' : World} {o : Option Addr} {F : List ByteArray} (h : TxL lo hi w o F) (hs : Same lo hi w w') : TxL lo hi w' o F := by
  intro i hi
  obtain ⟨a, ho, h1, h2, h3⟩ := h i hi
  exact ⟨a, ho, h1, h2, (hs.cell (by rw [add_blockG]; exact h1) (by rw [add_blockG]; exact h2)).trans h3⟩
set_option maxRecDepth 20000 in
theorem InL.same {lo hi : Nat} {w w' : World} {o : Option Addr} {F : List Int} (h : InL lo hi w o F) (hs : Same lo hi w w') : InL lo hi w' o F := by
  intro i hi
  obtain ⟨a, ho, h1, h2, h3⟩ := h i hi
  exact ⟨a, ho, h1, h2, (hs.cell (by rw [add_blockG]; exact h1) (by rw [add_blockG]; exact h2)).trans h3⟩
set_option maxRecDepth 20000 in
theorem TxL.mono {lo lo' hi hi' : Nat} {w : World} {o : Option Addr} {F : List ByteArray} (h : TxL lo hi w o F) (hl : lo' ≤ lo) (hh : hi ≤ hi') : TxL lo' hi' w o F := by
  intro i hi
  obtain ⟨a, ho, h1, h2, h3⟩ := h i hi
  exact ⟨a, ho, Nat.le_trans hl h1, Nat.lt_of_lt_of_le h2 hh, h3⟩
set_option maxRecDepth 20000 in
theorem InL.mono {lo lo' hi hi' : Nat} {w : World} {o : Option Addr} {F : List Int} (h : InL lo hi w o F) (hl : lo' ≤ lo) (hh : hi ≤ hi') : InL lo' hi' w o F := by
  intro i hi
  obtain ⟨a, ho, h1, h2, h3⟩ := h i hi
  exact ⟨a, ho, Nat.le_trans hl h1, Nat.lt_of_lt_of_le h2 hh, h3⟩
set_option maxRecDepth 20000 in
theorem TxL.below {lo hi B : Nat} {w w' : World} {o : Option Addr} {F : List ByteArray} (h : TxL lo hi w o F) (hb : Below B w w') (hB : hi ≤ B) : TxL lo hi w' o F := h.same (Same.of_below hb hB)
set_option maxRecDepth 20000 in
theorem InL.below {lo hi B : Nat} {w w' : World} {o : Option Addr} {F : List Int} (h : InL lo hi w o F) (hb : Below B w w') (hB : hi ≤ B) : InL lo hi w' o F := h.same (Same.of_below hb hB)
set_option maxRecDepth 20000 in
theorem TxL.tx {lo hi : Nat} {w : World} {o : Option Addr} {F : List ByteArray} (h : TxL lo hi w o F) : Tx hi w o F := fun i hi => let ⟨a, ho, _, h2, h3⟩ := h i hi; ⟨a, ho, h2, h3⟩
set_option maxRecDepth 20000 in
theorem InL.ints {lo hi : Nat} {w : World} {o : Option Addr} {F : List Int} (h : InL lo hi w o F) : Ints hi w o F := fun i hi => let ⟨a, ho, _, h2, h3⟩ := h i hi; ⟨a, ho, h2, h3⟩
set_option maxRecDepth 20000 in
set_option maxHeartbeats 400000 in
theorem lawEqSStr (a b : Option Addr) (F : List ByteArray) (cap cap' lo lo' : Nat) (w : World) (hF : TxL lo w.heap.size w a F) (hG : TxL lo' w.heap.size w b F) (hlen : F.length ≤ 1048576) :
    Calls Tryz.prog 64 #[.slice a F.length cap, .slice b F.length cap'] w fun e w' => e = .returned (.bool true) ∧ Below w.heap.size w w' := by
  have HF := mkHid hF.tx
  have HG := mkHid hG.tx
  clear hF hG
  go_enter Tryz.func64, Tryz.ntmps64
  go_wp2
  go_loopw [5] (fun i wr => ∃ k : Nat, k ≤ F.length ∧ i = .int .i64 k ∧ Below w.heap.size w wr) (fun i _ => F.length - (Lib.intOf i).toNat)
  case atStart => exact ⟨0, Nat.zero_le _, rfl, Below.refl _ _⟩
  case round =>
    obtain ⟨k, hk, rfl, hb0⟩ := hrel
    by_cases hlt : k < F.length
    · obtain ⟨a', ea, ha, hc0⟩ := (HF.out.below hb0) k hlt
      obtain ⟨b', eb, hb, hd0⟩ := (HG.out.below hb0) k hlt
      subst ea eb
      generalize F[k] = f at hc0 hd0
      go_wp2
      go_region
      all_goals
        go_wp2
        go_roundw
        case rel => exact ⟨k + 1, by omega, by go_num, hb0.drew⟩
        case measure => simp [Lib.intOf]; omega
    · go_wp2
      go_ret
      exact ⟨rfl, hb0⟩
set_option maxRecDepth 20000 in
set_option maxHeartbeats 400000 in
theorem lawEqSInt (a b : Option Addr) (F : List Int) (cap cap' lo lo' : Nat) (w : World) (hF : InL lo w.heap.size w a F) (hG : InL lo' w.heap.size w b F) (hlen : F.length ≤ 1048576) :
    Calls Tryz.prog 65 #[.slice a F.length cap, .slice b F.length cap'] w fun e w' => e = .returned (.bool true) ∧ Below w.heap.size w w' := by
  have HF := mkHid hF.ints
  have HG := mkHid hG.ints
  clear hF hG
  go_enter Tryz.func65, Tryz.ntmps65
  go_wp2
  go_loopw [5] (fun i wr => ∃ k : Nat, k ≤ F.length ∧ i = .int .i64 k ∧ Below w.heap.size w wr) (fun i _ => F.length - (Lib.intOf i).toNat)
  case atStart => exact ⟨0, Nat.zero_le _, rfl, Below.refl _ _⟩
  case round =>
    obtain ⟨k, hk, rfl, hb0⟩ := hrel
    by_cases hlt : k < F.length
    · obtain ⟨a', ea, ha, hc0⟩ := (HF.out.below hb0) k hlt
      obtain ⟨b', eb, hb, hd0⟩ := (HG.out.below hb0) k hlt
      subst ea eb
      generalize F[k] = f at hc0 hd0
      go_wp2
      go_region
      all_goals
        go_wp2
        go_roundw
        case rel => exact ⟨k + 1, by omega, by go_num, hb0.drew⟩
        case measure => simp [Lib.intOf]; omega
    · go_wp2
      go_ret
      exact ⟨rfl, hb0⟩
end Go.Proofs.YtlphojaeaogehaaGreatDoor
namespace Go.Proofs.YtlphojaeaogehaaGreatDoor
open Go.RowKit Go.Lib Go.Maps
def strCellsX (P : List ByteArray) : List Value := P.map .string
/-- The slice v, whose array is among the blocks from B on, holds just the texts P. -/
def OwnX (B : Nat) (v : Value) (P : List ByteArray) (w : World) : Prop := w.ownsRow B 9 1 v P.length (strCellsX P)
set_option maxRecDepth 20000 in
theorem OwnX.nil (B : Nat) (w : World) : OwnX B (.slice none 0 0) [] w := World.ownsRow_nil w B 9 1
set_option maxRecDepth 20000 in
theorem OwnX.shape {B : Nat} {v : Value} {P : List ByteArray} {w : World} (h : OwnX B v P w) : ∃ o cap, v = .slice o P.length cap := by
  rcases h.2 with ⟨rfl, h0⟩ | ⟨g, cap, cur, rfl, -⟩
  · exact ⟨none, 0, by rw [h0]⟩
  · exact ⟨_, cap, rfl⟩
set_option maxRecDepth 20000 in
theorem OwnX.txL {B : Nat} {o : Option Addr} {cap : Nat} {P : List ByteArray} {w : World} (h : OwnX B (.slice o P.length cap) P w) : TxL B w.heap.size w o P := by
  intro i hi
  have hl := World.ownsRow.lt h
  rcases h.2 with ⟨h1, h0⟩ | ⟨g, cap', cur, h1, hB, -⟩
  · omega
  · simp only [Value.slice.injEq] at h1
    obtain ⟨rfl, -⟩ := h1
    exact ⟨_, rfl, hB, (hl g rfl).2, World.ownsRow.cells h (g := g) rfl i _ (by simp [strCellsX, hi])⟩
set_option maxRecDepth 20000 in
theorem OwnX.keep {B : Nat} {v : Value} {P : List ByteArray} {w w' : World} {row : Option Nat} (h : OwnX B v P w) (hg : w.grownBy w' row) (hne : v.ownBlock = none ∨ v.ownBlock ≠ row) : OwnX B v P w' := World.ownsRow.kept h hg hne
set_option maxRecDepth 20000 in
theorem OwnX.below {B : Nat} {v : Value} {P : List ByteArray} {w w' : World} (h : OwnX B v P w) (hb : Below w.heap.size w w') : OwnX B v P w' := World.ownsRow.kept h (row := none) ⟨hb.os, hb.tape, hb.output, hb.size, fun k hk _ => hb.block k hk⟩ (by
  cases hv : v.ownBlock with
  | none => exact .inl rfl
  | some k => exact .inr (by simp))
set_option maxRecDepth 20000 in
theorem Tryz.info9X : (Tryz.prog.info? 9).map (fun i => (i.zero, i.size, i.bytes)) = some (some (.string ⟨#[]⟩), 1, 16) := by kernel_rfl
set_option maxRecDepth 20000 in
theorem wp_appX {w : World} {ops : Array Oper} {rest : List Oper} {o : Oper} {a : Act} {Q : Exit → Act → World → Prop} (hgd : o.guard = none) (s x : Operand)
    (ho : o.op = .call { callee := .builtin .append, args := #[s, x], argTypes := #[34, 34] })
    (B : Nat) (v : Value) (C : List ByteArray) (hs : a.eval s = v) (hown : OwnX B v C w) (u : ByteArray)
    (c : Nat) (hx : a.eval x = .slice (some ⟨w.heap.size, 0, none⟩) 1 c) (hlen : C.length ≤ 1000000) (hB : B ≤ w.heap.size)
    (h : ∀ v' w', OwnX B v' (C ++ [u]) w' → (w.alloc (.cells #[.string u] 9)).grownBy w' v.ownBlock → wpList Tryz.prog ops Q rest (a.put o.dst v') w') : wpList Tryz.prog ops Q (o :: rest) a (w.alloc (.cells #[.string u] 9)) := by
  obtain ⟨i0, hi0, hz0, hz1, hz2⟩ := info_parts Tryz.info9X
  unfold OwnX at hown
  refine wpList_append_own _ hgd s x 34 ho B 9 i0 (.string ⟨#[]⟩) 1 16 Tryz.underlying34 hi0 hz0 hz1 hz2 rfl (by decide) v C.length (strCellsX C) hs (World.ownsRow.alloc hown _) ⟨w.heap.size, 0, none⟩ 1 c [.string u] hx
    rfl ?_ ?_ (by unfold maxLen; omega) (by omega) (by simp; omega) ?_
  · intro j y hj
    rw [add_off]
    match j, hj with
    | 0, hj => simp at hj; subst hj; simp
  · intro y hy
    simp at hy
    subst hy
    rfl
  · intro v' w' h1 h2 _
    refine h v' w' ?_ h2
    unfold OwnX strCellsX
    rw [List.map_append, List.length_append]
    exact h1
set_option maxRecDepth 20000 in
theorem OwnX.made (B : Nat) (w : World) (hB : B ≤ w.heap.size) : OwnX B (.slice (some ⟨w.heap.size, 0, none⟩) 0 0) [] (w.alloc (.cells #[] 9)) :=
  ⟨rfl, .inr ⟨w.heap.size, 0, #[], rfl, hB, heap_alloc_at _ _, Nat.le_refl _, Nat.zero_le _, rfl, rfl⟩⟩
end Go.Proofs.YtlphojaeaogehaaGreatDoor
namespace Go.Proofs.YtlphojaeaogehaaGreatDoor
open Go.RowKit Go.Lib Go.Maps
def numCells (P : List Int) : List Value := P.map (.int .i64)
/-- The slice v, whose array is among the blocks from B on, holds just the numbers P. -/
def OwnN (B : Nat) (v : Value) (P : List Int) (w : World) : Prop := w.ownsRow B 2 1 v P.length (numCells P)
set_option maxRecDepth 20000 in
theorem OwnN.nil (B : Nat) (w : World) : OwnN B (.slice none 0 0) [] w := World.ownsRow_nil w B 2 1
set_option maxRecDepth 20000 in
theorem OwnN.shape {B : Nat} {v : Value} {P : List Int} {w : World} (h : OwnN B v P w) : ∃ o cap, v = .slice o P.length cap := by
  rcases h.2 with ⟨rfl, h0⟩ | ⟨g, cap, cur, rfl, -⟩
  · exact ⟨none, 0, by rw [h0]⟩
  · exact ⟨_, cap, rfl⟩
set_option maxRecDepth 20000 in
theorem OwnN.inL {B : Nat} {o : Option Addr} {cap : Nat} {P : List Int} {w : World} (h : OwnN B (.slice o P.length cap) P w) : InL B w.heap.size w o P := by
  intro i hi
  have hl := World.ownsRow.lt h
  rcases h.2 with ⟨h1, h0⟩ | ⟨g, cap', cur, h1, hB, -⟩
  · omega
  · simp only [Value.slice.injEq] at h1
    obtain ⟨rfl, -⟩ := h1
    exact ⟨_, rfl, hB, (hl g rfl).2, World.ownsRow.cells h (g := g) rfl i _ (by simp [numCells, hi])⟩
set_option maxRecDepth 20000 in
theorem OwnN.keep {B : Nat} {v : Value} {P : List Int} {w w' : World} {row : Option Nat} (h : OwnN B v P w) (hg : w.grownBy w' row) (hne : v.ownBlock = none ∨ v.ownBlock ≠ row) : OwnN B v P w' := World.ownsRow.kept h hg hne
set_option maxRecDepth 20000 in
theorem OwnN.below {B : Nat} {v : Value} {P : List Int} {w w' : World} (h : OwnN B v P w) (hb : Below w.heap.size w w') : OwnN B v P w' := World.ownsRow.kept h (row := none) ⟨hb.os, hb.tape, hb.output, hb.size, fun k hk _ => hb.block k hk⟩ (by
  cases hv : v.ownBlock with
  | none => exact .inl rfl
  | some k => exact .inr (by simp))
/-- The numbers from k on. -/
def numsFrom (k n : Nat) : List Int := (List.range n).map fun j => ((k + j : Nat) : Int)
set_option maxRecDepth 20000 in
theorem nums_len (k n : Nat) : (numsFrom k n).length = n := by simp [numsFrom]
set_option maxRecDepth 20000 in
theorem nums_get (k n j : Nat) (h : j < (numsFrom k n).length) : (numsFrom k n)[j] = ((k + j : Nat) : Int) := by simp [numsFrom]
set_option maxRecDepth 20000 in
theorem nums_set (k : Nat) (P : List Int) (i : Nat) (h : i < P.length) : (numsFrom k i ++ P.drop i).set i ((k + i : Nat) : Int) = numsFrom k (i + 1) ++ P.drop (i + 1) := by
  rw [List.drop_eq_getElem_cons h]
  have e : numsFrom k (i + 1) = numsFrom k i ++ [((k + i : Nat) : Int)] := by simp [numsFrom, List.range_succ]
  rw [e, List.set_append, if_neg (by rw [nums_len]; omega), nums_len, Nat.sub_self, List.set_cons_zero, List.append_assoc]
  rfl
set_option maxRecDepth 20000 in
set_option maxHeartbeats 1000000 in
theorem lawMarkInts (o : Option Addr) (P : List Int) (cap B k0 : Nat) (w : World) (hl : P.length ≤ 1048576) (hk0 : k0 ≤ 1000000000000) (h : OwnN B (.slice o P.length cap) P w) :
    Calls Tryz.prog 43 #[.slice o P.length cap, .int .i64 k0] w fun e w' => e = .returned (.int .i64 ((k0 + P.length : Nat) : Int)) ∧ Hid (OwnN B (.slice o P.length cap) (numsFrom k0 P.length) w') ∧ Hid (w.grownBy w' (Value.slice o P.length cap).ownBlock) := by
  have H := mkHid h
  clear h
  go_enter Tryz.func43, Tryz.ntmps43
  go_wp2
  go_loopw [1, 5] (fun m i wr => ∃ k q : Nat, k ≤ P.length ∧ i = .int .i64 k ∧ m = .int .i64 (q : Int) ∧ Hid (q = k0 + k) ∧ Hid (OwnN B (.slice o P.length cap) (numsFrom k0 k ++ P.drop k) wr) ∧ Hid (w.grownBy wr (Value.slice o P.length cap).ownBlock)) (fun _ i _ => P.length - (Lib.intOf i).toNat)
  case atStart => exact ⟨0, k0, Nat.zero_le _, rfl, rfl, rfl, H, ⟨rfl, rfl, rfl, Nat.le_refl _, fun _ _ _ => rfl⟩⟩
  case round =>
    clear H
    obtain ⟨k, q, hk, rfl, rfl, hq, hown, hg⟩ := hrel
    have hqb : q ≤ 2000000000000 := by have := hq.out; omega
    by_cases hlt : k < P.length
    · have hlen : (numsFrom k0 k ++ P.drop k).length = P.length := by simp [nums_len]; omega
      have hset := mkHid (nums_set k0 P k hlt)
      rw [← hq.out] at hset
      generalize numsFrom k0 k ++ P.drop k = cur at *
      have hown' := hown.out
      unfold OwnN at hown'
      rw [hlen] at hown'
      rcases hown'.2 with ⟨h1, h0⟩ | ⟨g, cap', cr, h1, hB, -⟩
      · omega
      · simp only [Value.slice.injEq] at h1
        obtain ⟨rfl, -, rfl⟩ := h1
        have hcl : k < (numCells cur).length := by simp [numCells]; omega
        have d0 : wr.cell? ⟨g, k, none⟩ = some ((numCells cur)[k]) := by rw [World.ownsRow.cellAt hown' k (by omega)]; exact List.getElem?_eq_getElem hcl
        have z0 := World.ownsRow.frozenAt hown' k
        have hst := World.ownsRow.stored hown' k (.int .i64 (q : Int))
        have hn : Hid (OwnN B (.slice (some ⟨g, 0, none⟩) P.length cap) (numsFrom k0 (k + 1) ++ P.drop (k + 1)) (wr.setCell ⟨g, k, none⟩ (.int .i64 (q : Int)))) := by
          rw [← hset.out]
          show World.ownsRow _ _ _ _ _ _ _
          rw [List.length_set, hlen, numCells, List.map_set]
          exact hst.1
        have hg2 : Hid (w.grownBy (wr.setCell ⟨g, k, none⟩ (.int .i64 (q : Int))) (Value.slice (some ⟨g, 0, none⟩) P.length cap).ownBlock) := grG_trans hg.out hst.2
        have hadd := add_off g k
        generalize (numCells cur)[k] = y0 at d0
        replace hB := mkHid hB
        replace hlen := mkHid hlen
        clear hown' hst hset hown hg hcl
        go_wp2
        go_roundw
        case rel => exact ⟨k + 1, q + 1, by omega, by go_num, by go_num, by show _ = _; have := hq.out; omega, hn, hg2⟩
        case measure => simp [Lib.intOf]; omega
    · have hkl : Hid (k = P.length) := Nat.le_antisymm hk (by omega)
      have hn : Hid (OwnN B (.slice o P.length cap) (numsFrom k0 P.length) wr) := by
        have := hown.out
        rw [hkl.out, List.drop_length, List.append_nil] at this
        exact this
      clear hown
      go_wp2
      go_ret
      exact ⟨by rw [hq.out, hkl.out]; rfl, hn, hg⟩
set_option maxRecDepth 20000 in
set_option maxHeartbeats 1000000 in
theorem lawHeldInts (o : Option Addr) (n cap lo k0 : Nat) (w : World) (hl : n ≤ 1048576) (hk0 : k0 ≤ 1000000000000) (h : InL lo w.heap.size w o (numsFrom k0 n)) :
    Calls Tryz.prog 45 #[.slice o n cap, .int .i64 k0] w fun e w' => e = .returned (.int .i64 ((k0 + n : Nat) : Int)) ∧ w = w' := by
  have H : Hid (∀ i, i < n → ∃ a, o = some a ∧ w.cell? (a.add i) = some (.int .i64 ((k0 + i : Nat) : Int))) := show ∀ i, _ from fun i hi => by
    obtain ⟨a, h1, -, -, h2⟩ := h i (by rw [nums_len]; exact hi)
    exact ⟨a, h1, by rw [h2, nums_get]⟩
  clear h
  go_enter Tryz.func45, Tryz.ntmps45
  go_wp2
  go_loopw [1, 5] (fun m i wr => ∃ k q : Nat, k ≤ n ∧ i = .int .i64 k ∧ m = .int .i64 (q : Int) ∧ Hid (q = k0 + k) ∧ wr = w) (fun _ i _ => n - (Lib.intOf i).toNat)
  case atStart => exact ⟨0, k0, Nat.zero_le _, rfl, rfl, rfl, rfl⟩
  case round =>
    obtain ⟨k, q, hk, rfl, rfl, hq, hWr⟩ := hrel
    have hWr' : wr = w := hWr
    clear hWr
    subst hWr'
    have hqb : q ≤ 2000000000000 := by have := hq.out; omega
    by_cases hlt : k < n
    · obtain ⟨a, rfl, c0⟩ := H.out k hlt
      rw [← hq.out] at c0
      have z1 : ((q : Int) != (q : Int)) = false := by simp
      go_wp2
      go_roundw
      case rel => exact ⟨k + 1, q + 1, by omega, by go_num, by go_num, by show _ = _; have := hq.out; omega, trivial⟩
      case measure => simp [Lib.intOf]; omega
    · have hkl : Hid (k = n) := Nat.le_antisymm hk (by omega)
      go_wp2
      go_ret
      exact ⟨by rw [hq.out, hkl.out]; rfl, rfl⟩
end Go.Proofs.YtlphojaeaogehaaGreatDoor
namespace Go.Proofs.YtlphojaeaogehaaGreatDoor
open Go.RowKit Go.Lib Go.Maps
set_option maxRecDepth 20000 in
/-- An append of one number. -/
theorem wp_appN {w : World} {ops : Array Oper} {rest : List Oper} {o : Oper} {a : Act} {Q : Exit → Act → World → Prop} (hgd : o.guard = none) (s x : Operand)
    (ho : o.op = .call { callee := .builtin .append, args := #[s, x], argTypes := #[35, 35] })
    (B : Nat) (v : Value) (C : List Int) (hs : a.eval s = v) (hown : OwnN B v C w) (u : Int)
    (c : Nat) (hx : a.eval x = .slice (some ⟨w.heap.size, 0, none⟩) 1 c) (hlen : C.length ≤ 1000000) (hB : B ≤ w.heap.size)
    (h : ∀ v' w', OwnN B v' (C ++ [u]) w' → (w.alloc (.cells #[.int .i64 u] 2)).grownBy w' v.ownBlock → wpList Tryz.prog ops Q rest (a.put o.dst v') w') : wpList Tryz.prog ops Q (o :: rest) a (w.alloc (.cells #[.int .i64 u] 2)) := by
  obtain ⟨i0, hi0, hz0, hz1, hz2⟩ := info_parts Tryz.info2
  unfold OwnN at hown
  refine wpList_append_own _ hgd s x 35 ho B 2 i0 (.int .i64 0) 1 8 Tryz.underlying35 hi0 hz0 hz1 hz2 rfl (by decide) v C.length (numCells C) hs (World.ownsRow.alloc hown _) ⟨w.heap.size, 0, none⟩ 1 c [.int .i64 u] hx
    rfl ?_ ?_ (by unfold maxLen; omega) (by omega) (by simp; omega) ?_
  · intro j y hj
    rw [add_off]
    match j, hj with
    | 0, hj => simp at hj; subst hj; simp
  · intro y hy
    simp at hy
    subst hy
    rfl
  · intro v' w' h1 h2 _
    refine h v' w' ?_ h2
    unfold OwnN numCells
    rw [List.map_append, List.length_append]
    exact h1
end Go.Proofs.YtlphojaeaogehaaGreatDoor
