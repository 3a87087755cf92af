
/- The program's BoxNameFault: a name cut at its strokes. -/
import Derived.Test.YtbepjjnjdhkcbaaDoorSpecBoxName
import Derived.Test.YtbepjjnjdhkcbaaDoorImplFlag
import Derived.Test.YtbepjjnjdhkcbaaDoorFuncT
import Derived.Test.YtbepjjnjdhkcbaaDoorPhrasePlain
namespace Go.Proofs.YtbepjjnjdhkcbaaDoor
open Go.RowKit Go.Lib Go.Maps
namespace St
set_option maxRecDepth 20000 in
theorem boxB47 : boxB 47 = false := by decide
set_option maxRecDepth 20000 in
theorem nameB47 : nameB 47 = true := by decide
set_option maxRecDepth 20000 in
theorem eq47 (c : UInt8) : (c.toNat == 47) = decide (c = 47) := by
  rw [Bool.eq_iff_iff]
  simp only [beq_iff_eq, decide_eq_true_eq]
  constructor
  · intro h
    exact UInt8.toNat_inj.1 h
  · rintro rfl
    rfl
set_option maxRecDepth 20000 in
theorem nameB_eq (c : UInt8) (h : c ≠ 47) : nameB c = boxB c := by
  have e := eq47 c
  rw [decide_eq_false h] at e
  unfold nameB boxB
  rw [e, Bool.or_false]
def okS (q : List UInt8) : Bool := !q.isEmpty && q.all boxB
def scn : Bool → List UInt8 → Bool
  | p, [] => p
  | p, c :: r => if c = 47 then p && scn false r else boxB c && scn true r
def lastOk : Bool → List UInt8 → Bool
  | p, [] => p
  | _, c :: r => lastOk (!(c.toNat == 47)) r
set_option maxRecDepth 20000 in
theorem scn_seg : ∀ (l : List UInt8) (p : Bool), scn p l = (seg (!p) l && lastOk p l)
  | [], p => by cases p <;> rfl
  | c :: r, p => by
    by_cases hc : c = 47
    · subst hc
      have e : ((47 : UInt8).toNat == 47) = true := rfl
      rw [scn, if_pos rfl, scn_seg r false, seg, nameB47, lastOk, e]
      cases p <;> simp
    · have e := eq47 c
      rw [decide_eq_false hc] at e
      rw [scn, if_neg hc, scn_seg r true, seg, nameB_eq c hc, lastOk, e]
      simp [Bool.and_assoc]
set_option maxRecDepth 20000 in
theorem lastOk_getD : ∀ (l : List UInt8) (p : Bool), l ≠ [] → lastOk p l = !((l.getD (l.length - 1) 0).toNat == 47)
  | [], _, h => absurd rfl h
  | [c], p, _ => rfl
  | c :: d :: r, p, _ => by
    rw [lastOk, lastOk_getD (d :: r) _ (by simp)]
    simp
set_option maxRecDepth 20000 in
theorem boxName_scn (t : ByteArray) : boxName t = (decide (t.size ≤ 60) && scn false t.data.toList) := by
  unfold boxName byteAt
  have hl : t.data.toList.length = t.size := by simp
  rw [← hl]
  generalize t.data.toList = l
  cases l with
  | nil => rfl
  | cons c r =>
    rw [scn_seg, lastOk_getD _ _ (by simp)]
    rw [show decide (1 ≤ (c :: r).length) = true from decide_eq_true (by simp)]
    rw [show (c :: r).getD 0 0 = c from rfl, seg, seg]
    cases decide ((c :: r).length ≤ 60) <;> cases (c.toNat == 47) <;> cases nameB c <;> cases seg (c.toNat == 47) r <;> simp <;> (try exact Bool.and_comm _ _)
set_option maxRecDepth 20000 in
theorem sp_scn : ∀ (l h : List UInt8) (t : List (List UInt8)), Pl.sp 47 l = h :: t → scn true l = (h.all boxB && t.all okS) ∧ scn false l = (okS h && t.all okS)
  | [], h, t, e => by
    rw [Pl.sp] at e
    injection e with e1 e2
    subst e1 e2
    exact ⟨rfl, rfl⟩
  | c :: r, h, t, e => by
    obtain ⟨h', t', e'⟩ := Pl.sp_ne 47 r
    obtain ⟨i1, i2⟩ := sp_scn r h' t' e'
    by_cases hc : c = 47
    · subst hc
      rw [Pl.sp, if_pos rfl] at e
      injection e with e1 e2
      subst e1 e2
      rw [scn, if_pos rfl, scn, if_pos rfl, i2, e']
      exact ⟨rfl, by simp [okS]⟩
    · rw [Pl.sp, if_neg hc, e'] at e
      injection e with e1 e2
      subst e1 e2
      rw [scn, if_neg hc, scn, if_neg hc, i1]
      exact ⟨by rw [List.all_cons, Bool.and_assoc], by rw [okS, List.all_cons]; simp [Bool.and_assoc]⟩
set_option maxRecDepth 20000 in
theorem scn_all (l : List UInt8) : (Pl.sp 47 l).all okS = scn false l := by
  obtain ⟨h, t, e⟩ := Pl.sp_ne 47 l
  rw [(sp_scn l h t e).2, e, List.all_cons]
def step (q : ByteArray) : Bool := okS q.data.toList
end St
set_option maxRecDepth 20000 in
theorem part_sizeS (sep : ByteArray) (sv : Nat) : ∀ (k : Nat) (s q : ByteArray), q ∈ splitB sep sv k s → q.size ≤ s.size
  | 0, s, q, h => by
    rw [splitB_zero, List.mem_singleton] at h
    rw [h]; exact Nat.le_refl _
  | k + 1, s, q, h => by
    unfold splitB at h
    split at h
    · rw [List.mem_singleton] at h
      rw [h]; exact Nat.le_refl _
    · rcases List.mem_cons.1 h with h | h
      · rw [h, ByteArray.size_extract]; omega
      · have := part_sizeS sep sv k _ q h
        rw [ByteArray.size_extract] at this
        omega
set_option maxRecDepth 20000 in
theorem parts_step (s : ByteArray) : ((splitB ⟨#[47]⟩ 0 (countB s ⟨#[47]⟩) s).any fun q => !St.step q) = !St.scn false s.data.toList := by
  rw [← St.scn_all, ← Pl.split_sp]
  have := splitB_data ⟨#[47]⟩ 0 (countB s ⟨#[47]⟩) s
  rw [show (ByteArray.mk #[47]).data.toList = [47] from rfl] at this
  rw [show count s.data.toList [47] = countB s ⟨#[47]⟩ from rfl, ← this, List.all_map, List.not_all_eq_any_not]
  rfl
set_option maxRecDepth 20000 in
theorem implNoStep (s : ByteArray) (w : World) (hs : s.size ≤ 1048576) : Calls Tryd.prog 54 #[.string s] w fun e w' => e = .returned (.bool (!St.step s)) ∧ w = w' := by
  have hA := mkHid (implAllOf kindBoxB s w (by omega))
  have htl : s.data.toList = s.toList := (ByteArray.toList_eq s).symm
  unfold St.step St.okS
  generalize s.data.toList.all St.boxB = a at *
  rw [htl]
  rw [show s.toList.isEmpty = (s.toList == []) by cases s.toList <;> rfl]
  cases he : (s.toList == []) <;> cases a
  all_goals
    clear htl
    go_enter Tryd.func54, Tryd.ntmps54
    go_wp2_with (go_at_call 70; go_must (refine hA.out.mono ?_; rintro e w2 ⟨rfl, rfl⟩))
    go_ret
    exact ⟨rfl, rfl⟩
set_option maxRecDepth 20000 in
theorem kindStep : KindT 54 (fun q => !St.step q) := ⟨Go.Proofs.enters_of Tryd.func54 (by kernel_rfl) rfl, implNoStep⟩
set_option maxRecDepth 20000 in
set_option maxHeartbeats 1000000 in
theorem implBoxName (s : ByteArray) (m : Int) (w : World) (hs : s.size ≤ 1048576) (hm : w.cell? ⟨0, 0, none⟩ = some (.int .i64 m)) :
    Calls Tryd.prog 40 #[.string s] w fun e w' => e = .returned (.int .i64 (plBoxNameFault s)) ∧ Below w.heap.size w w' := by
  unfold plBoxNameFault
  rw [St.boxName_scn]
  by_cases h60 : s.size ≤ 60
  · rw [decide_eq_true h60, Bool.true_and]
    have hsp := Tryd.strings_Split s ⟨#[47]⟩ m w (by omega) hm (by decide)
    have hln := splitB_all ⟨#[47]⟩ (by decide) 0 _ s rfl
    have hsz := part_sizeS ⟨#[47]⟩ 0 (countB s ⟨#[47]⟩) s
    have hcl := countB_le ⟨#[47]⟩ (by decide) s.size s (Nat.le_refl _)
    have hps := parts_step s
    rw [← hln] at hsp
    generalize hP : splitB ⟨#[47]⟩ 0 (countB s ⟨#[47]⟩) s = parts at hsp hln hsz hps
    have hn : parts.length ≤ 61 := by omega
    obtain ⟨W1, hW1⟩ : ∃ W1, w.alloc (.cells (parts.map Value.string).toArray 9) = W1 := ⟨_, rfl⟩
    have hb : Below w.heap.size w W1 := by rw [← hW1]; exact (Below.refl _ _).alloc (Nat.le_refl _) _
    have hT : Tx W1.heap.size W1 (some ⟨w.heap.size, 0, none⟩) parts := by
      intro k hk
      refine ⟨⟨w.heap.size, 0, none⟩, rfl, ?_, ?_⟩
      · rw [← hW1]; simp
      · rw [add_off, ← hW1]; simp [hk]
    have hC := mkHid (implContainsT kindStep (some ⟨w.heap.size, 0, none⟩) parts parts.length W1 hT (by omega) (fun q hq => Nat.le_trans (hsz q hq) hs))
    rw [hps] at hC
    rw [hW1] at hsp
    replace hsp := mkHid hsp
    replace hb := mkHid hb
    clear hps hT hW1 hP hcl hln hsz hm
    generalize St.scn false s.data.toList = b at *
    have hF := mkHid (implForm b W1)
    go_enter Tryd.func40, Tryd.ntmps40
    go_wp2_with fail
    refine hsp.out.mono ?_
    rintro e w1 ⟨rfl, rfl⟩
    go_wp2_with fail
    refine hC.out.mono ?_
    rintro e w2 ⟨rfl, rfl⟩
    have hbb : (!!b) = b := by cases b <;> rfl
    go_wp2_with fail
    first | rw [hbb] | skip
    refine hF.out.mono ?_
    rintro e w3 ⟨rfl, rfl⟩
    go_wp2
    go_ret
    exact ⟨rfl, hb.out⟩
  · rw [decide_eq_false h60, Bool.false_and]
    have hF := mkHid (implForm false w)
    have x1 : decide ((s.size : Int) ≤ 60) = false := decide_eq_false (by omega)
    clear hm
    go_enter Tryd.func40, Tryd.ntmps40
    go_wp2_with fail
    refine hF.out.mono ?_
    rintro e w3 ⟨rfl, rfl⟩
    go_wp2
    go_ret
    exact ⟨rfl, Below.refl _ _⟩
end Go.Proofs.YtbepjjnjdhkcbaaDoor
