
/- FnExactSubjectOf: the program's side. -/

/- Runs of blanks as one space, the specification's side. -/
import Derived.Test.YtajkahpkbeobaaaGreatDoorSubjFields
import Derived.Test.YtajkahpkbeobaaaGreatDoorLawReadWords
import Derived.Lib.Join
import Derived.Test.YtajkahpkbeobaaaGreatDoorReadPlain
import Derived.Laws.OwnMore
import Derived.Lib.QuietBelow
import Derived.Deep.QuietTactic
import Derived.BigQuiet
import Derived.Deep.RegionWith
namespace Go.Proofs.YtajkahpkbeobaaaGreatDoor
open Go.RowKit Go.Lib Go.Maps Go.Shelf
namespace Sj
set_option maxRecDepth 20000 in
theorem join_is : ∀ l : List (List UInt8), Lib.join l [32] = join1 l
  | [] => rfl
  | [x] => join_one x [32]
  | x :: y :: r => by
    rw [join_cons, join1, ← join_is (y :: r), join_cons]
    simp [joinTail]
set_option maxRecDepth 20000 in
theorem nOwn {B : Nat} {o : Option Addr} {cap : Nat} {P : List Int} {w : World} (h : OwnN B (.slice o P.length cap) P w) : PtsAt w.heap.size w o P := fun k hk => by
  obtain ⟨a, ho, -, h2, h3⟩ := h.inL k hk
  exact ⟨a, ho, by simpa using h2, by simpa using h3⟩
set_option maxRecDepth 20000 in
theorem fl_count : ∀ (l cur : List UInt8), (fl cur l).length ≤ l.length + 1
  | [], cur => by rw [fl]; split <;> simp
  | c :: r, cur => by
    rw [fl]
    split
    · split
      · have := fl_count r []
        simp; omega
      · have := fl_count r []
        simp; omega
    · have := fl_count r (cur ++ [c])
      simp; omega
/-- What comes behind the blanks are made one. -/
def low (v : ByteArray) : List UInt8 := (join1 (fl [] (said v).data.toList)).map small
set_option maxRecDepth 20000 in
theorem low_len (v : ByteArray) : (low v).length ≤ 400000 := by
  unfold low
  rw [List.length_map]
  have := fl_small (said v).data.toList []
  have h2 := said_le v
  have e : (said v).data.toList.length = (said v).size := by simp
  simp only [List.length_nil] at this
  omega
set_option maxRecDepth 20000 in
theorem firstOf {B : Nat} {o : Option Addr} {cap : Nat} {x : ByteArray} {r : List ByteArray} {w : World} (h : OwnX B (.slice o (x :: r).length cap) (x :: r) w) : ∃ a, o = some a ∧ w.cell? a = some (.string x) := by
  rcases h.2 with ⟨-, h0⟩ | ⟨g, cap', cur, h1, -⟩
  · simp at h0
  · simp only [Value.slice.injEq] at h1
    obtain ⟨rfl, -⟩ := h1
    refine ⟨_, rfl, ?_⟩
    have := World.ownsRow.cells h (g := g) rfl 0 (.string x) (by simp [strCellsX])
    rwa [add_off] at this
end Sj
set_option maxRecDepth 20000 in
theorem fieldHd (a b d sl : Value) (w : World) : (Instr.field 26 (.agg #[a, b, sl, d]) 2).run Tryz.prog w = .ok sl w := by first | kernel_rfl | rfl
set_option maxRecDepth 20000 in
theorem fieldBy (b : Bool) (t : ByteArray) (w : World) : (Instr.field 31 (.agg #[.bool b, .string t]) 1).run Tryz.prog w = .ok (.string t) w := by kernel_rfl
set_option maxRecDepth 20000 in
theorem blankGives (n : Nat) (hn : n ≤ 1114111) (W : World) : Calls Tryz.prog 24 #[.int .i32 n] W fun e w' => e = .returned (.bool (Sj.bR n)) ∧ ∃ q, w' = W.drewN q := by
  unfold Sj.bR
  by_cases h1 : n = 32
  · subst h1
    go_enter Tryz.func24, Tryz.ntmps24
    go_wp2
    go_ret
    exact ⟨rfl, 0, rfl⟩
  · by_cases h2 : n = 9
    · subst h2
      go_enter Tryz.func24, Tryz.ntmps24
      go_wp2
      go_ret
      exact ⟨rfl, 0, rfl⟩
    · have e1 : (n == 32) = false := by simpa using h1
      have e2 : (n == 9) = false := by simpa using h2
      have e3 : ((n : Int) == 32) = false := by simp; omega
      have e4 : ((n : Int) == 9) = false := by simp; omega
      rw [e1, e2]
      go_enter Tryz.func24, Tryz.ntmps24
      go_wp2
      go_ret
      exact ⟨rfl, 0, rfl⟩
set_option maxRecDepth 20000 in
theorem blankPred (w : World) : PredAtRunes Tryz.prog 24 #[] Sj.bR w := fun W x hx _ => blankGives x hx W
set_option maxRecDepth 20000 in
theorem blankEnters (args : Array Value) (w : World) : (callFunc 24 args).run Tryz.prog w = .ok (.enter 24 args) w :=
  Go.Proofs.enters_of Tryz.func24 (by kernel_rfl) rfl args w
set_option maxRecDepth 40000 in
set_option maxHeartbeats 8000000 in
theorem implSubjectOf (s : ByteArray) (w : World) (hs : s.size ≤ 1048576) (hW : RwW w) :
    Calls Tryz.prog 5 #[.string s] w fun e w' => e = .returned (.string (Sj.subj s)) ∧ Below w.heap.size w w' := by
  have cR := mkHid (implRH s w hs)
  have HL := mkHid (RH_len s)
  have Hz := mkHid (Sj.toBA_size s)
  have Hvz := mkHid (Sj.values_size s)
  have HV := mkHid (show Sj.values s = Sj.named (toBA (RH s).fields) Sj.subjectT from rfl)
  have HR : Hid (Sj.subj s = match Sj.values s with | [] => ⟨#[]⟩ | v :: _ => ⟨(Sj.norm (Sj.low v)).toArray⟩) := mkHid rfl
  generalize RH s = H at *
  generalize Sj.values s = VS at *
  generalize Sj.subj s = R at *
  have HW := mkHid hW
  clear hW
  go_enter Tryz.func5, Tryz.ntmps5
  go_wp2_with fail
  refine cR.out.mono ?_
  rintro e w1 ⟨o, c, rfl, hF1, hb1⟩
  obtain ⟨o', c', he, hfld⟩ := hF1.fld
  simp only [Value.slice.injEq] at he
  obtain ⟨rfl, -, rfl⟩ := he
  have cF := implFindField o (toBA H.fields) c ⟨#[83, 117, 98, 106, 101, 99, 116]⟩ w1 hfld (by rw [toBA_len]; exact HL.out) Hz.out (by decide)
  rw [toBA_len] at cF
  have e0 : Sj.named (toBA H.fields) ⟨#[83, 117, 98, 106, 101, 99, 116]⟩ = VS := HV.out.symm
  rw [e0] at cF
  replace cF := mkHid cF
  have Hb1 := mkHid hb1
  have fH : ∀ W, (Instr.field 26 (hdV H o c) 2).run Tryz.prog W = .ok (.slice o H.fields.length c) W := fun W => fieldHd _ _ _ _ W
  clear e0 hfld hF1 hb1 cR HL Hz HV
  go_wp2_with fail
  refine cF.out.mono ?_
  rintro e w2 ⟨v, rfl, hX, hb2⟩
  obtain ⟨ox, cx, rfl⟩ := hX.shape
  have hz1 := Hb1.out.size
  have Hb2 := mkHid (Hb1.out.trans (hb2.mono hz1))
  have HX := mkHid hX
  clear cF hX hb2
  cases VS with
  | nil =>
    go_wp2
    go_ret
    exact ⟨by rw [HR.out]; rfl, Hb2.out⟩
  | cons x r =>
    have hxz : x.size ≤ 100000 := Hvz.out x (.head _)
    obtain ⟨a, rfl, hc0⟩ := Sj.firstOf HX.out
    have HR2 : Hid (R = ⟨(Sj.norm (Sj.low x)).toArray⟩) := HR.out
    have hl0 : (((x :: r).length : Int) == 0) = false := by simp; omega
    have hl1 : 0 < (x :: r).length := by simp
    obtain ⟨N, hN⟩ : ∃ N, (x :: r).length = N := ⟨_, rfl⟩
    rw [hN] at hl0 hl1 ⊢
    clear hN HR HX Hvz
    have cU := mkHid (implUnfold x w2 hxz)
    have Hed := mkHid (Sj.enc_val x)
    have Hll := mkHid (Sj.low_len x)
    have Hlow : Hid (Sj.low x = (Sj.join1 (Sj.fl [] (Sj.said x).data.toList)).map small) := rfl
    have Hsz := mkHid (Sj.said_le x)
    have Hfs := mkHid (Sj.fl_small (Sj.said x).data.toList [])
    generalize Sj.said x = sd at *
    generalize Sj.low x = lw at *
    have huz : (⟨(Pl.unf false x.data.toList).toArray⟩ : ByteArray).size ≤ 1048576 := by
      have := Pl.unf_len x.data.toList false
      have e : x.data.toList.length = x.size := by simp
      show (Pl.unf false x.data.toList).toArray.size ≤ _
      simp; omega
    generalize (⟨(Pl.unf false x.data.toList).toArray⟩ : ByteArray) = u at *
    obtain ⟨bg, Hed0⟩ := Hed.out
    have fB := fieldBy bg sd
    replace Hed := mkHid Hed0
    clear Hed0
    go_wp2_with fail
    refine cU.out.mono ?_
    rintro e w3 ⟨rfl, hb3⟩
    have hz2 := Hb2.out.size
    have Hb3 := mkHid (Hb2.out.trans (hb3.mono hz2))
    have cW := mkHid (implReadAny u w3 huz (HW.out.below Hb3.out))
    have hlen := rwOf_len u
    generalize rwOf u = P at *
    clear cU hb3 Hb2 hc0 hz2 HW
    go_wp2_with fail
    refine cW.out.mono ?_
    rintro e w4 ⟨v4, rfl, hO, hb4⟩
    obtain ⟨o4, c4, rfl⟩ := hO.shape
    have hz3 := Hb3.out.size
    have Hb4 := mkHid (Hb3.out.trans (hb4.mono hz3))
    have cE := implEncode 4 o4 P c4 w4 (Sj.nOwn hO) (by omega)
    rw [Hed.out] at cE
    replace cE := mkHid cE
    clear cW hO hb4 Hb3 hz3 Hed hlen
    go_wp2_with fail
    refine cE.out.mono ?_
    rintro e w5 ⟨rfl, hb5⟩
    have hz4 := Hb4.out.size
    have Hb5 := mkHid (Hb4.out.trans (hb5.mono hz4))
    clear cE hb5 Hb4 hz4
    have hsd := Hsz.out
    have cFF := mkHid (fun W => Tryz.strings_FieldsFunc_runes 24 #[] blankEnters Sj.bR sd W (by omega) (blankPred W))
    have Hpc := mkHid (Sj.fields_blank sd)
    generalize Lib.goFieldsP Sj.bR sd = PS at *
    go_wp2_with fail
    refine (cFF.out _).mono ?_
    rintro e w6 ⟨A, rfl, hA, hown, hb6⟩
    have hz5 := Hb5.out.size
    have Hb6 := mkHid (Hb5.out.trans (hb6.mono hz5))
    have hjl : Lib.join (PS.map (·.data.toList)) [32] = Sj.join1 (Sj.fl [] sd.data.toList) := by rw [Sj.join_is, Hpc.out]
    have hJz := Hfs.out
    have hsl : sd.data.toList.length = sd.size := by simp
    simp only [List.length_nil] at hJz
    have hAlt := (World.ownsRow.lt hown A rfl).2
    have hPl : PS.length ≤ 140737488355328 := by
      have h1 := Sj.fl_count sd.data.toList []
      have h2 := congrArg List.length Hpc.out
      rw [List.length_map] at h2
      omega
    have cJ := Tryz.strings_Join A 0 PS.length PS ⟨#[32]⟩ w6 (fun j y hj => by
      have := World.ownsRow.cells hown (g := A) rfl j (.string y) (by simp [hj])
      rw [add_off] at this
      rw [Nat.zero_add]
      exact this) hAlt hPl (Nat.le_refl _) (by
      show (Lib.join (PS.map (·.data.toList)) [32]).length ≤ _
      rw [hjl]; omega)
    have hJ0 : (⟨(Lib.join (PS.map (·.data.toList)) (⟨#[32]⟩ : ByteArray).data.toList).toArray⟩ : ByteArray) = ⟨(Sj.join1 (Sj.fl [] sd.data.toList)).toArray⟩ := by
      rw [← hjl]
    rw [hJ0] at cJ
    obtain ⟨J, hJ⟩ : ∃ J, Sj.join1 (Sj.fl [] sd.data.toList) = J := ⟨_, rfl⟩
    rw [hJ] at cJ hJz Hlow
    replace cJ := mkHid cJ
    have hJs : (⟨J.toArray⟩ : ByteArray).size ≤ 4000000 := by show J.toArray.size ≤ _; simp; omega
    have cL := mkHid (fun W => implLoweredB ⟨J.toArray⟩ W hJs)
    have hlo : Hid ((⟨(lower (⟨J.toArray⟩ : ByteArray).data.toList).toArray⟩ : ByteArray) = ⟨lw.toArray⟩) := by
      show _ = _
      rw [Hlow.out]
      rfl
    rw [hlo.out] at cL
    generalize PS.length = PL at *
    clear hJ0 hjl hown hA hb6 Hb5 hz5 cFF Hpc hJ hJz hsl hlo Hlow Hfs Hsz hsd hPl
    go_wp2_with fail
    refine cJ.out.mono ?_
    rintro e w7 ⟨rfl, hb7⟩
    have hz6 := Hb6.out.size
    have Hb7 := mkHid (Hb6.out.trans (hb7.mono hz6))
    clear cJ hb7 Hb6 hz6
    go_wp2_with fail
    refine (cL.out _).mono ?_
    rintro e w8 ⟨rfl, hb8⟩
    have hz7 := Hb7.out.size
    have Hb8 := mkHid (Hb7.out.trans (hb8.mono hz7))
    clear cL hb8 Hb7 hz7
    go_wp2
    go_loopw [5] (fun v wr => ∃ t : ByteArray, t.size ≤ 400000 ∧ v = .string t ∧ Hid (Sj.norm t.data.toList = Sj.norm lw) ∧ Below w.heap.size w wr) (fun v _ => match v with | .string t => t.size | _ => 0)
    case atStart => exact ⟨⟨lw.toArray⟩, by show lw.toArray.size ≤ _; have := Hll.out; simp; omega, rfl, mkHid rfl, Hb8.out⟩
    case round =>
      obtain ⟨t, htz, rfl, hn, hbt⟩ := hrel
      have Hbt := mkHid hbt
      have cM := implCutMark t wr (by omega)
      have el : t.data.toList.length = t.size := by simp
      unfold Sj.markV at cM
      cases hc : Sj.cutM t.data.toList with
      | none =>
        replace cM : Calls Tryz.prog 25 #[.string t] wr fun e w' => e = .returned (.tuple #[.string t, .bool false]) ∧ Below wr.heap.size wr w' := by
          rw [hc] at cM
          exact cM
        have hv : Hid (R = t) := by
          show _ = _
          rw [HR2.out, ← hn.out, Sj.norm_none hc]
        replace cM := mkHid cM
        clear hbt Hb8 hc hn el HR2 Hll
        go_wp2_with fail
        refine cM.out.mono ?_
        rintro e w9 ⟨rfl, hb9⟩
        have hzt := Hbt.out.size
        have Hb9 := mkHid (Hbt.out.trans (hb9.mono hzt))
        clear hb9 cM
        go_wp2
        go_ret
        exact ⟨by rw [hv.out]; rfl, Hb9.out⟩
      | some q =>
        replace cM : Calls Tryz.prog 25 #[.string t] wr fun e w' => e = .returned (.tuple #[.string ⟨q.toArray⟩, .bool true]) ∧ Below wr.heap.size wr w' := by
          rw [hc] at cM
          exact cM
        have hlt := Sj.cutM_lt hc
        have hv : Hid (Sj.norm (⟨q.toArray⟩ : ByteArray).data.toList = Sj.norm lw) := by
          show _ = _
          rw [← hn.out, Sj.norm_some hc]
        have hqs : (⟨q.toArray⟩ : ByteArray).size < t.size := by show q.toArray.size < _; simp; omega
        replace cM := mkHid cM
        generalize (⟨q.toArray⟩ : ByteArray) = t2 at *
        clear hbt Hb8 hc hn el HR2 Hll hlt
        go_wp2_with fail
        refine cM.out.mono ?_
        rintro e w9 ⟨rfl, hb9⟩
        have hzt := Hbt.out.size
        have Hb9 := mkHid (Hbt.out.trans (hb9.mono hzt))
        clear hb9 cM
        go_wp2
        go_roundw
        case rel => exact ⟨t2, by omega, rfl, hv, Hb9.out⟩
        case measure => simp; omega
end Go.Proofs.YtajkahpkbeobaaaGreatDoor
namespace Go.Proofs.YtajkahpkbeobaaaGreatDoor
open Go.RowKit Go.Lib
namespace Pl
/-- Runs of blanks as one space; the flag: a space has been written last. -/
def rn : Bool → List UInt8 → List UInt8
  | _, [] => []
  | sp, c :: r => if blank c then (if sp then rn true r else 32 :: rn true r) else c :: rn false r
def lastSp (p : List UInt8) : Bool := p.getLast? == some 32
def bareEnd (p : List UInt8) : List UInt8 := if lastSp p then p.dropLast else p
def runs (l : List UInt8) : List UInt8 := bareEnd (rn false l)
set_option maxRecDepth 20000 in
theorem last_snoc (p : List UInt8) (c : UInt8) : lastSp (p ++ [c]) = (c == 32) := by
  unfold lastSp
  rw [List.getLast?_append, List.getLast?_singleton]
  simp
set_option maxRecDepth 20000 in
theorem rn_skip (l p X : List UInt8) (k : Nat) (hk : k < l.length) (hb : blank l[k] = true) (hs : lastSp p = true) (h : Hid (p ++ rn (lastSp p) (l.drop k) = X)) : Hid (p ++ rn (lastSp p) (l.drop (k + 1)) = X) := by
  have h := h.out
  rw [List.drop_eq_getElem_cons hk, rn, if_pos hb, hs, if_pos rfl] at h
  rw [hs]
  exact h
set_option maxRecDepth 20000 in
theorem rn_space (l p X : List UInt8) (k : Nat) (hk : k < l.length) (hb : blank l[k] = true) (hs : lastSp p = false) (h : Hid (p ++ rn (lastSp p) (l.drop k) = X)) : Hid ((p ++ [32]) ++ rn (lastSp (p ++ [32])) (l.drop (k + 1)) = X) := by
  have h := h.out
  rw [List.drop_eq_getElem_cons hk, rn, if_pos hb, hs, if_neg (by simp)] at h
  show _ = _
  rw [last_snoc, show ((32 : UInt8) == 32) = true from rfl, ← h]
  simp
set_option maxRecDepth 20000 in
theorem rn_byte (l p X : List UInt8) (k : Nat) (hk : k < l.length) (hb : blank l[k] = false) (h : Hid (p ++ rn (lastSp p) (l.drop k) = X)) : Hid ((p ++ [l[k]]) ++ rn (lastSp (p ++ [l[k]])) (l.drop (k + 1)) = X) := by
  have h := h.out
  rw [List.drop_eq_getElem_cons hk, rn, if_neg (by rw [hb]; simp)] at h
  have h32 : (l[k] == 32) = false := by
    unfold blank at hb
    rw [Bool.or_eq_false_iff] at hb
    exact hb.1
  show _ = _
  rw [last_snoc, h32, ← h]
  simp
set_option maxRecDepth 20000 in
theorem rn_end (l p X : List UInt8) (k : Nat) (hk : l.length ≤ k) (h : Hid (p ++ rn (lastSp p) (l.drop k) = X)) : p = X := by
  have h := h.out
  rw [List.drop_eq_nil_of_le hk, rn, List.append_nil] at h
  exact h
set_option maxRecDepth 20000 in
theorem last_get (p : List UInt8) (h : 0 < p.length) : lastSp p = (p[p.length - 1] == 32) := by
  unfold lastSp
  rw [List.getLast?_eq_getElem?, List.getElem?_eq_getElem (by omega)]
  rfl
end Pl
set_option maxRecDepth 20000 in
theorem Own.cut {B g n cap : Nat} {p : List UInt8} {w : World} (h : Own B (.slice (some ⟨g, 0, none⟩) n cap) p w) (k : Nat) (hk : k ≤ p.length) : Own B (.slice (some ⟨g, 0, none⟩) k cap) (p.take k) w := by
  obtain ⟨h1, h2⟩ := h
  have hl : (p.take k).length = k := by rw [List.length_take]; omega
  refine ⟨by rw [byteCells_length, Nat.mul_one], .inr ?_⟩
  rcases h2 with ⟨h2, -⟩ | ⟨g', cap', cur, e1, e2, e3, e4, e5, e6, e7⟩
  · cases h2
  · have e8 := e1
    cases e8
    refine ⟨g, cap, cur, by rw [hl], e2, e3, by omega, e5, e6, ?_⟩
    rw [hl, Nat.mul_one]
    have e9 : cur.toList.take p.length = byteCells p := by rw [← e7, Nat.mul_one]
    have e10 := congrArg (List.take k) e9
    rw [List.take_take, Nat.min_eq_left hk] at e10
    rw [e10]
    simp [byteCells, List.map_take]
end Go.Proofs.YtajkahpkbeobaaaGreatDoor
