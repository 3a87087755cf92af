
/- A region that draws its order and ends in operations that wait for all others: one case an operation, then the end by itself. Laws of no program. -/

/- Draws out of tables of texts: what an operation of a drawn region yields. -/

/- A source of draws: an address. -/

/- Lists of texts that were handed in; the law's helpers over them. -/

/- Lists of numbers that were handed in; the law's helpers over them, and over texts. -/

/- Results that lie in a block: laws of no program. -/

/- Lists of texts and of numbers between two blocks; laws of the law's helpers over them, for the texts that tools/gen/structs.py writes. -/
import Derived.Test.YtdjghniinnfncaaGreatDoorAnyVals
import Derived.Laws.OwnMore
import Derived.Laws.MakeOwn
import Derived.Deep.RegionWith
import Derived.WalkKit
import Derived.WalkLawsBesides
import Derived.WalkSpells
import Derived.Below
import Derived.Maps.OwnSet
import Derived.Deep.OwnRows
import Derived.Lib.QuietBelow
import Derived.Deep.QuietTactic
import Derived.BigQuiet
namespace Go.Proofs.YtdjghniinnfncaaGreatDoor
open Go.RowKit
section
variable {P : Program} {ops : Array Oper} {Q : Exit → Act → World → Prop} {md : Region.Mode}
/-- No operation waits for one behind it, in this mode. -/
def afterLowM (md : Region.Mode) (ops : Array Oper) : Bool := (List.range ops.size).all fun i => ((ops[i]?).map fun o => o.after.toList.all fun e => !Region.binds md e || decide (e.on < i)).getD false
set_option maxRecDepth 20000 in
theorem all_doneM {L : Array Bool} (hs : L.size = ops.size) (hA : afterLowM md ops = true) (hr : Region.ready md ops L = []) : ∀ m i, i < m → i < ops.size → L.getD i false = true
  | 0, i, h, _ => by omega
  | m + 1, i, h, hi => by
    by_cases hm : i < m
    · exact all_doneM hs hA hr m i hm hi
    · cases hd : L.getD i false with
      | true => rfl
      | false =>
        exfalso
        have hin : i ∈ Region.ready md ops L := by
          unfold Region.ready
          rw [List.mem_filter, List.mem_range, Bool.and_eq_true]
          refine ⟨hi, by rw [getD_false (by omega), hd]; rfl, ?_⟩
          have ha := List.all_eq_true.1 hA i (List.mem_range.2 hi)
          obtain ⟨o, ho⟩ : ∃ o, ops[i]? = some o := ⟨ops[i], by simp⟩
          rw [ho] at ha ⊢
          have ha2 : (o.after.toList.all fun e => !Region.binds md e || decide (e.on < i)) = true := ha
          show (o.after.all fun e => !Region.binds md e || L.getD e.on false) = true
          refine Array.all_eq_true'.2 fun e he => ?_
          have hlt := List.all_eq_true.1 ha2 e (Array.mem_toList_iff.2 he)
          rw [Bool.or_eq_true, decide_eq_true_eq] at hlt
          rcases hlt with hlt | hlt
          · rw [hlt, Bool.true_or]
          · rw [all_doneM hs hA hr m e.on (by omega) (by omega), Bool.or_true]
        rw [hr] at hin
        cases hin
def depOn (md : Region.Mode) (ops : Array Oper) (k j : Nat) : Bool := ((ops[k]?).map fun o => o.after.toList.any fun e => e.on == j && Region.binds md e).getD false
def ClosedL (md : Region.Mode) (ops : Array Oper) (L : Array Bool) : Prop := ∀ k j, L.getD k false = true → depOn md ops k j = true → L.getD j false = true
set_option maxRecDepth 20000 in
theorem ready_dep2 {L : Array Bool} {i : Nat} (h : i ∈ Region.ready md ops L) (j : Nat) (hd : depOn md ops i j = true) : L.getD j false = true := by
  have hi := (mem_ready h).1
  have ho : ops[i]? = some ops[i] := by simp
  unfold depOn at hd
  rw [ho] at hd
  exact ready_dep h ho j hd
set_option maxRecDepth 20000 in
theorem ClosedL.set {L : Array Bool} {i : Nat} (hc : ClosedL md ops L) (h : i ∈ Region.ready md ops L) : ClosedL md ops (L.setIfInBounds i true) := by
  intro k j hk hd
  by_cases hj : j = i
  · subst hj
    have := mem_ready h
    have hi : j < L.size := by
      by_cases hi : j < L.size
      · exact hi
      · have h2 := this.2
        simp [Array.getD, hi] at h2
    simp [Array.getD, hi]
  · rw [done_set hj]
    by_cases hk2 : k = i
    · subst hk2
      exact ready_dep2 h j hd
    · rw [done_set hk2] at hk
      exact hc k j hk hd
def closeDown (md : Region.Mode) (ops : Array Oper) : Nat → List Nat → List Nat
  | 0, M => M
  | j + 1, M => closeDown md ops j (if M.any (fun k => depOn md ops k j) then j :: M else M)
set_option maxRecDepth 20000 in
theorem closeDown_done {L : Array Bool} {i : Nat} (hc : ClosedL md ops L) (hi : i ∈ Region.ready md ops L) : ∀ (n : Nat) (M : List Nat), (∀ k ∈ M, k = i ∨ L.getD k false = true) → ∀ k ∈ closeDown md ops n M, k = i ∨ L.getD k false = true
  | 0, M, h, k, hk => h k hk
  | j + 1, M, h, k, hk => by
    refine closeDown_done hc hi j _ ?_ k hk
    intro q hq
    split at hq
    · rename_i ha
      rcases List.mem_cons.1 hq with rfl | hq
      · right
        obtain ⟨p, hp, hd⟩ := List.any_eq_true.1 ha
        rcases h p hp with rfl | hp2
        · exact ready_dep2 hi _ hd
        · exact hc _ _ hp2 hd
      · exact h q hq
    · exact h q hq
/-- Each operation from l on waits for all that come before l. -/
def waitsAll (md : Region.Mode) (ops : Array Oper) (l : Nat) : Bool := (List.range ops.size).all fun i => decide (i < l) || (List.range l).all fun j => (closeDown md ops i [i]).contains j
set_option maxRecDepth 20000 in
theorem waits_done {L : Array Bool} {i l : Nat} (hw : waitsAll md ops l = true) (hc : ClosedL md ops L) (hi : i ∈ Region.ready md ops L) (hl : l ≤ i) (j : Nat) (hj : j < l) : L.getD j false = true := by
  have h1 := List.all_eq_true.1 hw i (List.mem_range.2 (mem_ready hi).1)
  rw [Bool.or_eq_true, decide_eq_true_eq] at h1
  rcases h1 with h1 | h1
  · omega
  · have h2 := List.all_eq_true.1 h1 j (List.mem_range.2 hj)
    have h3 := closeDown_done hc hi i [i] (fun k hk => .inl (by simpa using hk)) j (by simpa using h2)
    rcases h3 with h3 | h3
    · omega
    · exact h3
set_option maxRecDepth 20000 in
theorem left_pos {L : Array Bool} {j : Nat} (hj : j < L.size) (h : L.getD j false = false) : 0 < left L := by
  unfold left
  rw [List.count_pos_iff]
  have : L[j] = false := by simpa [Array.getD, hj] using h
  rw [← this]
  simp
set_option maxRecDepth 20000 in
theorem fin_eq {L Lf : Array Bool} {l : Nat} (hs : L.size = Lf.size) (hf : ∀ j, j < Lf.size → Lf.getD j false = decide (j < l)) (h1 : ∀ j, j < l → L.getD j false = true) (h2 : ∀ j, l ≤ j → L.getD j false = false) : L = Lf := by
  refine Array.ext hs fun j hj hj2 => ?_
  have e1 : L.getD j false = L[j] := by simp [Array.getD, hj]
  have e2 : Lf.getD j false = Lf[j] := by simp [Array.getD, hj2]
  rw [← e1, ← e2, hf j hj2]
  by_cases h : j < l
  · rw [h1 j h, decide_eq_true h]
  · rw [h2 j (by omega), decide_eq_false h]
set_option maxRecDepth 20000 in
theorem wpAny_phase (l m : Nat) (Lf : Array Bool) (dst : Nat → Nat) (A : (Nat → Value) → Act) (F : Nat → Value → World → Prop) (G : Nat → World → Prop) (R : World → World → Prop)
    (hm : ops.size = l + m) (hLs : Lf.size = ops.size) (hLf : ∀ j, j < Lf.size → Lf.getD j false = decide (j < l)) (hln : left Lf = m)
    (hlow : afterLowM md ops = true) (hwait : waitsAll md ops l = true) (hdst : ∀ i j, i < l → j < l → j ≠ i → dst j ≠ dst i) (hF : ∀ j v w w', F j v w → R w w' → F j v w')
    (hend : ∀ x w, G l w → (∀ i, i < l → F i (x (dst i)) w) → wpAny P md ops Q m Lf (A x) w)
    (hstep : ∀ k x L w i, i < l → k < l → G k w → i ∈ Region.ready md ops L → (∀ j, j < l → L.getD j false = true → F j (x (dst j)) w) → wpOp P ops Q i (fun a' w' => ∃ v, a' = A (put x (dst i) v) ∧ F i v w' ∧ R w w' ∧ G (k + 1) w') (A x) w) :
    ∀ (n : Nat) (L : Array Bool) (k : Nat) (x : Nat → Value) (w : World), L.size = ops.size → left L = n → k + n = ops.size → (∀ j, l ≤ j → L.getD j false = false) → ClosedL md ops L → G k w → (∀ j, j < l → L.getD j false = true → F j (x (dst j)) w) → wpAny P md ops Q n L (A x) w := by
  intro n
  induction n with
  | zero =>
    intro L k x w hs hl hk hno hc hG hx
    have hall : ∀ j, j < l → L.getD j false = true := by
      intro j hj
      cases h : L.getD j false with
      | true => rfl
      | false =>
        have := left_pos (by omega) h
        omega
    have e := fin_eq (by omega) hLf hall hno
    have hm0 : m = 0 := by rw [← hln, ← e]; exact hl
    have hkl : k = l := by omega
    subst hkl
    rw [e]
    have := hend x w hG (fun i hi => hx i hi (hall i hi))
    rw [hm0] at this
    exact this
  | succ n ih =>
    intro L k x w hs hl hk hno hc hG hx
    by_cases hall : ∀ j, j < l → L.getD j false = true
    · have e := fin_eq (by omega) hLf hall hno
      have hm0 : m = n + 1 := by rw [← hln, ← e]; exact hl
      have hkl : k = l := by omega
      subst hkl
      rw [e]
      have := hend x w hG (fun i hi => hx i hi (hall i hi))
      rw [hm0] at this
      exact this
    · refine ⟨fun hr => ?_, fun i hi => ?_⟩
      · exact absurd (fun j hj => all_doneM hs hlow hr _ j (Nat.lt_succ_self j) (by omega)) hall
      · have hil : i < l := by
          rcases Nat.lt_or_ge i l with h | h
          · exact h
          · exact absurd (fun j hj => waits_done hwait hc hi h j hj) hall
        have hr := mem_ready hi
        have hkl : k < l := by
          rcases Nat.lt_or_ge k l with h | h
          · exact h
          · exfalso
            have hn : n + 1 ≤ m := by omega
            refine hall fun j hj => ?_
            cases hd : L.getD j false with
            | true => rfl
            | false =>
              exfalso
              have h1 : left (L.setIfInBounds j true) = n := left_set (by rw [getD_false (by omega)]; exact hd) hl
              have h2 : m ≤ left (L.setIfInBounds j true) := by
                rw [← hln]
                unfold left
                have key : ∀ (a b : List Bool), a.length = b.length → (∀ i : Nat, a[i]? = some false → b[i]? = some false) → a.count false ≤ b.count false := by
                  intro a
                  induction a with
                  | nil => intro b _ _; simp
                  | cons p t iht =>
                    intro b hlen hab
                    cases b with
                    | nil => simp at hlen
                    | cons q s =>
                      have h3 := iht s (by simpa using hlen) (fun i hi => by have := hab (i + 1); simpa using this (by simpa using hi))
                      have h4 := hab 0
                      cases p <;> cases q <;> simp at h4 ⊢ <;> omega
                refine key _ _ (by simp; omega) fun i hi => ?_
                have hil : i < Lf.size := by
                  have := (List.getElem?_eq_some_iff.1 hi).1
                  simpa using this
                have e2 : Lf.getD i false = false := by
                  have := (List.getElem?_eq_some_iff.1 hi).2
                  simpa [Array.getD, hil] using this
                rw [hLf i hil, decide_eq_false_iff_not] at e2
                have e3 := hno i (by omega)
                have hij : i ≠ j := by omega
                rw [← done_set (i := j) hij] at e3
                have hil2 : i < (L.setIfInBounds j true).size := by simp; omega
                generalize L.setIfInBounds j true = M at *
                have e4 : M[i] = false := by simpa [Array.getD, hil2] using e3
                rw [List.getElem?_eq_getElem (by simpa using hil2), Array.getElem_toList, e4]
              omega
        refine wpOp_mono ?_ (hstep k x L w i hil hkl hG hi hx)
        rintro a' w' ⟨v, rfl, hv, hw, hG'⟩
        refine ih _ (k + 1) (put x (dst i) v) w' (by simpa using hs) (left_set hr.2 hl) (by omega) ?_ (hc.set hi) hG' ?_
        · intro j hj
          rw [done_set (by omega)]
          exact hno j hj
        · intro j hj hd
          by_cases hji : j = i
          · subst hji
            unfold put
            rw [if_pos rfl]
            exact hv
          · rw [done_set hji] at hd
            unfold put
            rw [if_neg (hdst i j hil hj hji)]
            exact hF j _ _ _ (hx j hj hd) hw
end
end Go.Proofs.YtdjghniinnfncaaGreatDoor
namespace Go.Proofs.YtdjghniinnfncaaGreatDoor
open Go.RowKit Go.Lib
def tabM (M B n : Nat) (v : Value) (w : World) : Prop := ∃ b, v = .slice (some ⟨b, 0, none⟩) n n ∧ B ≤ b ∧ ∀ k, k < n → ∃ t : ByteArray, w.cell? ⟨b, k, none⟩ = some (.string t) ∧ t.size ≤ M
def ptrM (M B : Nat) (v : Value) (w : World) : Prop := ∃ (b k : Nat) (t : ByteArray), v = .pointer (some ⟨b, k, none⟩) ∧ B ≤ b ∧ w.cell? ⟨b, k, none⟩ = some (.string t) ∧ t.size ≤ M
def txtM (M : Nat) (v : Value) : Prop := ∃ t : ByteArray, v = .string t ∧ t.size ≤ M
def numM (lo hi : Nat) (v : Value) : Prop := ∃ k : Nat, v = .int .i64 k ∧ lo ≤ k ∧ k < hi
set_option maxRecDepth 20000 in
theorem tabM.gr {M B n g : Nat} {v : Value} {w w' : World} (h : tabM M B n v w) (hg : w.grownBy w' (some g)) (hB : g < B) : tabM M B n v w' := by
  obtain ⟨b, rfl, hb, hc⟩ := h
  refine ⟨b, rfl, hb, fun k hk => ?_⟩
  obtain ⟨t, h1, h2⟩ := hc k hk
  exact ⟨t, gr_cell hg (show b ≠ g by omega) h1, h2⟩
set_option maxRecDepth 20000 in
theorem ptrM.gr {M B g : Nat} {v : Value} {w w' : World} (h : ptrM M B v w) (hg : w.grownBy w' (some g)) (hB : g < B) : ptrM M B v w' := by
  obtain ⟨b, k, t, rfl, hb, h1, h2⟩ := h
  exact ⟨b, k, t, rfl, hb, gr_cell hg (show b ≠ g by omega) h1, h2⟩
set_option maxRecDepth 20000 in
theorem tabM_get {M : Nat} {w : World} {cs : Array Value} {k : Nat} (hk : k < cs.size) (hcs : cs.toList.all (strOk M) = true) : ∃ t : ByteArray, (w.alloc (.cells cs 9)).cell? ⟨w.heap.size, k, none⟩ = some (.string t) ∧ t.size ≤ M := by
  have hm : strOk M cs[k] = true := List.all_eq_true.1 hcs _ (Array.mem_toList_iff.2 (Array.getElem_mem hk))
  have hc : (w.alloc (.cells cs 9)).cell? ⟨w.heap.size, k, none⟩ = some cs[k] := by simp [hk]
  cases hx : cs[k] with
  | string t =>
    rw [hx] at hc hm
    exact ⟨t, hc, by simpa [strOk] using hm⟩
  | _ => rw [hx] at hm; cases hm
/-- The source is somewhere behind, and nothing but it has turned. -/
def GoneBy (W : World) (g : Nat) (o : Option Addr) (cl cp a0 z : Nat) (k : Nat) (w : World) : Prop := W.grownBy w (some g) ∧ ∃ a', a' ≤ a0 + k ∧ Src w g o cl cp a' z
set_option maxRecDepth 20000 in
theorem GoneBy.still {W : World} {g cl cp a0 z k : Nat} {o : Option Addr} {w w' : World} (h : GoneBy W g o cl cp a0 z k w) (hb : Below w.heap.size w w') : GoneBy W g o cl cp a0 z (k + 1) w' := by
  obtain ⟨h1, a', h2, h3⟩ := h
  exact ⟨gr_trans h1 (gr_below hb), a', by omega, h3.below hb⟩
end Go.Proofs.YtdjghniinnfncaaGreatDoor
namespace Go.Proofs.YtdjghniinnfncaaGreatDoor
open Go.RowKit Go.Lib
def kyFact (g B : Nat) (j : Nat) (v : Value) (w : World) : Prop :=
  match j with
  | 0 => tabM 5 B 6 v w
  | 1 => v = .pointer (some ⟨g, 0, none⟩)
  | 2 => numM 0 6 v
  | 3 => ptrM 5 B v w
  | 4 => txtM 5 v
  | 5 => txtM 6 v
  | 6 => tabM 9 B 4 v w
  | 7 => v = .pointer (some ⟨g, 0, none⟩)
  | 8 => numM 0 4 v
  | 9 => ptrM 9 B v w
  | 10 => txtM 9 v
  | 11 => txtM 15 v
  | 12 => txtM 15 v
  | _ => True
def kyDst (j : Nat) : Nat :=
  match j with
  | 0 => 3
  | 1 => 4
  | 2 => 5
  | 3 => 6
  | 4 => 7
  | 5 => 8
  | 6 => 9
  | 7 => 10
  | 8 => 11
  | 9 => 12
  | 10 => 13
  | 11 => 14
  | 12 => 2
  | _ => 999
set_option maxRecDepth 20000 in
theorem kyFact.gr {g B : Nat} (hB : g < B) (j : Nat) (v : Value) (w w' : World) (h : kyFact g B j v w) (hg : w.grownBy w' (some g)) : kyFact g B j v w' := by
  unfold kyFact at h ⊢
  split
  all_goals first
    | exact tabM.gr h hg hB
    | exact ptrM.gr h hg hB
    | exact h
    | trivial
abbrev kyAct (g : Nat) (x : Nat → Value) : Act := { tmps := #[.pointer (some ⟨g, 0, none⟩), undef, x 2, x 3, x 4, x 5, x 6, x 7, x 8, x 9, x 10, x 11, x 12, x 13, x 14], defers := [] }
set_option maxRecDepth 20000 in
set_option maxHeartbeats 4000000 in
theorem srcKeyE (g : Nat) (o : Option Addr) (c : List UInt8) (cp a z : Nat) (w : World) (h : Src w g o c.length cp a z) (hc : Code g w o c) (ha : a ≤ 900000) (hl : c.length ≤ 1048576) :
    Calls Tryz.prog 17 #[.pointer (some ⟨g, 0, none⟩)] w fun e w' => ∃ (t : ByteArray) (a' : Nat), e = .returned (.string t) ∧ t.size ≤ 15 ∧ a' ≤ a + 13 ∧ Src w' g o c.length cp a' z ∧ w.grownBy w' (some g) := by
  have HCW : Hid (Code g w o c) := hc
  have hgl := h.lt
  have HG : Hid (GoneBy w g o c.length cp a z 0 w.drew) := ⟨gr_below (Below.refl _ _).drew, a, by omega, h.below (Below.refl _ _).drew⟩
  clear h hc
  go_enter Tryz.func17, Tryz.ntmps17
  go_wp2
  refine wp_region_any (by kernel_rfl) ?_
  refine wpAny_phase 13 0 (Array.replicate 13 true) kyDst (kyAct g) (kyFact g w.heap.size) (GoneBy w g o c.length cp a z) (fun w w' => w.grownBy w' (some g)) rfl rfl (by decide) rfl (by kernel_rfl) (by kernel_rfl) ?_ (kyFact.gr hgl) ?hend ?hstep _ _ 0 (fun j => if j = 2 then .string ⟨#[]⟩ else undef) _ rfl rfl rfl (by intro j hj; simp [Array.getD]) ?_ HG.out ?_
  · intro i j hi hj hne
    unfold kyDst
    rcases (show i = 0 ∨ i = 1 ∨ i = 2 ∨ i = 3 ∨ i = 4 ∨ i = 5 ∨ i = 6 ∨ i = 7 ∨ i = 8 ∨ i = 9 ∨ i = 10 ∨ i = 11 ∨ i = 12 by omega) with rfl | rfl | rfl | rfl | rfl | rfl | rfl | rfl | rfl | rfl | rfl | rfl | rfl
    all_goals rcases (show j = 0 ∨ j = 1 ∨ j = 2 ∨ j = 3 ∨ j = 4 ∨ j = 5 ∨ j = 6 ∨ j = 7 ∨ j = 8 ∨ j = 9 ∨ j = 10 ∨ j = 11 ∨ j = 12 by omega) with rfl | rfl | rfl | rfl | rfl | rfl | rfl | rfl | rfl | rfl | rfl | rfl | rfl
    all_goals first | (exact absurd rfl hne) | decide
  case hend =>
    intro x wr hG hf
    obtain ⟨t, e, ht⟩ := hf 12 (by decide)
    obtain ⟨hgr, a1, ha1, hs1⟩ := hG
    have e2 : x 2 = .string t := e
    clear hf e
    refine wpAny_done (by kernel_rfl) ?_ _
    go_simp
    go_wp2
    go_ret
    exact ⟨t, a1, by rw [← e2]; rfl, ht, by omega, hs1, hgr⟩
  case hstep =>
    intro k x L wr i hil hkl hG hi hf
    rcases (show i = 0 ∨ i = 1 ∨ i = 2 ∨ i = 3 ∨ i = 4 ∨ i = 5 ∨ i = 6 ∨ i = 7 ∨ i = 8 ∨ i = 9 ∨ i = 10 ∨ i = 11 ∨ i = 12 by omega) with rfl | rfl | rfl | rfl | rfl | rfl | rfl | rfl | rfl | rfl | rfl | rfl | rfl
    · clear hi hf
      refine wpOp_step rfl (fun K hK => ?_)
      go_simp
      have hbb : ∀ cs, Below wr.heap.size wr (wr.alloc (.cells cs 9)) := fun cs => (Below.refl _ _).alloc (Nat.le_refl _) _
      refine hK _ _ ⟨.slice (some ⟨wr.heap.size, 0, none⟩) 6 6, by simp [put, kyDst], ⟨_, rfl, hG.1.size, ?_⟩, gr_below (hbb _), hG.still (hbb _)⟩
      intro k hk
      exact tabM_get (by simpa using hk) (by decide)
    · clear hi hf
      refine wpOp_step rfl (fun K hK => ?_)
      go_simp
      exact hK _ _ ⟨.pointer (some ⟨g, 0, none⟩), by simp [put, kyDst], rfl, gr_refl _ _, hG.still (Below.refl _ _)⟩
    · have e0 : x 4 = .pointer (some ⟨g, 0, none⟩) := hf 1 (by omega) (ready_dep hi rfl 1 (by kernel_rfl))
      clear hi hf
      obtain ⟨hgr, a1, ha1, hs1⟩ := hG
      have hN := srcN g o c cp a1 z 6 wr hs1 (HCW.out.grown hgr (Nat.le_refl _)) (by omega) hl (by omega) (by omega)
      refine wpOp_step rfl (fun K hK => ?_)
      go_simp
      refine hN.mono ?_
      rintro e w2 ⟨v, rfl, hv, hs2, hg2⟩
      go_simp
      exact hK _ _ ⟨.int .i64 (v : Int), by simp [put, kyDst, e0], ⟨v, rfl, Nat.zero_le _, by omega⟩, hg2, gr_trans hgr hg2, a1 + 1, by omega, hs2⟩
    · have f0 := hf 0 (by omega) (ready_dep hi rfl 0 (by kernel_rfl))
      have f2 := hf 2 (by omega) (ready_dep hi rfl 2 (by kernel_rfl))
      clear hi hf
      obtain ⟨b, e0, hb, ht⟩ := f0
      obtain ⟨k2, e1, -, hk⟩ := f2
      obtain ⟨t, hc, hts⟩ := ht k2 hk
      have hk3 : (k2 : Int) < 6 := by omega
      have e0' : x 3 = .slice (some ⟨b, 0, none⟩) 6 6 := e0
      have e1' : x 5 = .int .i64 k2 := e1
      clear e0 e1 ht
      refine wpOp_step rfl (fun K hK => ?_)
      go_simp
      exact hK _ _ ⟨.pointer (some ⟨b, k2, none⟩), by simp [put, kyDst, e0', e1'], ⟨b, k2, t, rfl, hb, hc, hts⟩, gr_refl _ _, hG.still (Below.refl _ _)⟩
    · have f3 := hf 3 (by omega) (ready_dep hi rfl 3 (by kernel_rfl))
      clear hi hf
      obtain ⟨b, k2, t, e0, hb, hc, hts⟩ := f3
      have e0' : x 6 = .pointer (some ⟨b, k2, none⟩) := e0
      clear e0
      refine wpOp_step rfl (fun K hK => ?_)
      go_simp
      exact hK _ _ ⟨.string t, by simp [put, kyDst, e0'], ⟨t, rfl, hts⟩, gr_refl _ _, hG.still (Below.refl _ _)⟩
    · have f3 := hf 4 (by omega) (ready_dep hi rfl 4 (by kernel_rfl))
      clear hi hf
      obtain ⟨t, e0, hts⟩ := f3
      have e0' : x 7 = .string t := e0
      have n0 : ¬ 9223372036854775807 < t.size + 1 := by omega
      clear e0
      refine wpOp_step rfl (fun K hK => ?_)
      go_simp
      exact hK _ _ ⟨.string (t ++ ⟨#[64]⟩), by simp [put, kyDst, e0'], ⟨_, rfl, by rw [ByteArray.size_append]; exact Nat.add_le_add_right hts _⟩, gr_refl _ _, hG.still (Below.refl _ _)⟩
    · clear hi hf
      refine wpOp_step rfl (fun K hK => ?_)
      go_simp
      have hbb : ∀ cs, Below wr.heap.size wr (wr.alloc (.cells cs 9)) := fun cs => (Below.refl _ _).alloc (Nat.le_refl _) _
      refine hK _ _ ⟨.slice (some ⟨wr.heap.size, 0, none⟩) 4 4, by simp [put, kyDst], ⟨_, rfl, hG.1.size, ?_⟩, gr_below (hbb _), hG.still (hbb _)⟩
      intro k hk
      exact tabM_get (by simpa using hk) (by decide)
    · clear hi hf
      refine wpOp_step rfl (fun K hK => ?_)
      go_simp
      exact hK _ _ ⟨.pointer (some ⟨g, 0, none⟩), by simp [put, kyDst], rfl, gr_refl _ _, hG.still (Below.refl _ _)⟩
    · have e0 : x 10 = .pointer (some ⟨g, 0, none⟩) := hf 7 (by omega) (ready_dep hi rfl 7 (by kernel_rfl))
      clear hi hf
      obtain ⟨hgr, a1, ha1, hs1⟩ := hG
      have hN := srcN g o c cp a1 z 4 wr hs1 (HCW.out.grown hgr (Nat.le_refl _)) (by omega) hl (by omega) (by omega)
      refine wpOp_step rfl (fun K hK => ?_)
      go_simp
      refine hN.mono ?_
      rintro e w2 ⟨v, rfl, hv, hs2, hg2⟩
      go_simp
      exact hK _ _ ⟨.int .i64 (v : Int), by simp [put, kyDst, e0], ⟨v, rfl, Nat.zero_le _, by omega⟩, hg2, gr_trans hgr hg2, a1 + 1, by omega, hs2⟩
    · have f0 := hf 6 (by omega) (ready_dep hi rfl 6 (by kernel_rfl))
      have f2 := hf 8 (by omega) (ready_dep hi rfl 8 (by kernel_rfl))
      clear hi hf
      obtain ⟨b, e0, hb, ht⟩ := f0
      obtain ⟨k2, e1, -, hk⟩ := f2
      obtain ⟨t, hc, hts⟩ := ht k2 hk
      have hk3 : (k2 : Int) < 4 := by omega
      have e0' : x 9 = .slice (some ⟨b, 0, none⟩) 4 4 := e0
      have e1' : x 11 = .int .i64 k2 := e1
      clear e0 e1 ht
      refine wpOp_step rfl (fun K hK => ?_)
      go_simp
      exact hK _ _ ⟨.pointer (some ⟨b, k2, none⟩), by simp [put, kyDst, e0', e1'], ⟨b, k2, t, rfl, hb, hc, hts⟩, gr_refl _ _, hG.still (Below.refl _ _)⟩
    · have f3 := hf 9 (by omega) (ready_dep hi rfl 9 (by kernel_rfl))
      clear hi hf
      obtain ⟨b, k2, t, e0, hb, hc, hts⟩ := f3
      have e0' : x 12 = .pointer (some ⟨b, k2, none⟩) := e0
      clear e0
      refine wpOp_step rfl (fun K hK => ?_)
      go_simp
      exact hK _ _ ⟨.string t, by simp [put, kyDst, e0'], ⟨t, rfl, hts⟩, gr_refl _ _, hG.still (Below.refl _ _)⟩
    · have f3 := hf 5 (by omega) (ready_dep hi rfl 5 (by kernel_rfl))
      have f4 := hf 10 (by omega) (ready_dep hi rfl 10 (by kernel_rfl))
      clear hi hf
      obtain ⟨t, e0, hts⟩ := f3
      obtain ⟨t2, e1, hts2⟩ := f4
      have e0' : x 8 = .string t := e0
      have e1' : x 13 = .string t2 := e1
      have n0 : ¬ 9223372036854775807 < t.size + t2.size := by omega
      clear e0 e1
      refine wpOp_step rfl (fun K hK => ?_)
      go_simp
      exact hK _ _ ⟨.string (t ++ t2), by simp [put, kyDst, e0', e1'], ⟨_, rfl, by rw [ByteArray.size_append]; omega⟩, gr_refl _ _, hG.still (Below.refl _ _)⟩
    · have f3 := hf 11 (by omega) (ready_dep hi rfl 11 (by kernel_rfl))
      clear hi hf
      refine wpOp_step rfl (fun K hK => ?_)
      go_simp
      exact hK _ _ ⟨x 14, by simp [put, kyDst], f3, gr_refl _ _, hG.still (Below.refl _ _)⟩
  · intro k j hk
    simp [Array.getD] at hk
  · intro j hj hd
    simp [Array.getD] at hd
end Go.Proofs.YtdjghniinnfncaaGreatDoor
namespace Go.Proofs.YtdjghniinnfncaaGreatDoor
open Go.RowKit Go.Lib Go.Maps
def Tx (B : Nat) (w : World) (o : Option Addr) (ps : List ByteArray) : Prop := ∀ k (h : k < ps.length), ∃ a, o = some a ∧ a.block < B ∧ w.cell? (a.add k) = some (.string ps[k])
set_option maxRecDepth 20000 in
theorem mkHid {p : Prop} (h : p) : Hid p := h
set_option maxRecDepth 20000 in
theorem Tx.below {B : Nat} {w w' : World} {o : Option Addr} {ps : List ByteArray} (h : Tx B w o ps) (hb : Below B w w') : Tx B w' o ps := by
  intro k hk
  obtain ⟨a, rfl, ha, hc⟩ := h k hk
  refine ⟨a, rfl, ha, ?_⟩
  rw [← hc]
  have e : (a.add k).block = a.block := by unfold Addr.add; split <;> rfl
  exact hb.cell (by rw [e]; exact ha)
set_option maxRecDepth 20000 in
theorem Tx.mono {B B' : Nat} {w : World} {o : Option Addr} {ps : List ByteArray} (h : Tx B w o ps) (hB : B ≤ B') : Tx B' w o ps := by
  intro k hk
  obtain ⟨a, rfl, ha, hc⟩ := h k hk
  exact ⟨a, rfl, by omega, hc⟩
set_option maxRecDepth 20000 in
theorem Tryz.info9 : (Tryz.prog.info? 9).map (fun i => (i.zero, i.size, i.bytes)) = some (some (.string ByteArray.empty), 1, 16) := by kernel_rfl
def szT : List ByteArray → Nat
  | [] => 0
  | t :: r => t.size + szT r
set_option maxRecDepth 20000 in
theorem szT_drop (F : List ByteArray) (k : Nat) (h : k < F.length) : szT (F.drop k) = F[k].size + szT (F.drop (k + 1)) := by
  rw [List.drop_eq_getElem_cons h]; rfl
set_option maxRecDepth 20000 in
theorem szT_mem : ∀ (F : List ByteArray) (t : ByteArray), t ∈ F → t.size ≤ szT F
  | [], _, h => absurd h (List.not_mem_nil)
  | a :: r, t, h => by
    rcases List.mem_cons.1 h with rfl | h
    · simp [szT]
    · have := szT_mem r t h; simp [szT]; omega
end Go.Proofs.YtdjghniinnfncaaGreatDoor
namespace Go.Proofs.YtdjghniinnfncaaGreatDoor
open Go.RowKit Go.Lib Go.Maps
/-- The slice of numbers at o, in blocks below B. -/
def Ints (B : Nat) (w : World) (o : Option Addr) (ps : List Int) : Prop := ∀ k (h : k < ps.length), ∃ a, o = some a ∧ a.block < B ∧ w.cell? (a.add k) = some (.int .i64 ps[k])
set_option maxRecDepth 20000 in
theorem Ints.below {B : Nat} {w w' : World} {o : Option Addr} {ps : List Int} (h : Ints B w o ps) (hb : Below B w w') : Ints B w' o ps := by
  intro k hk
  obtain ⟨a, rfl, ha, hc⟩ := h k hk
  refine ⟨a, rfl, ha, ?_⟩
  rw [← hc]
  have e : (a.add k).block = a.block := by unfold Addr.add; split <;> rfl
  exact hb.cell (by rw [e]; exact ha)
set_option maxRecDepth 20000 in
theorem Ints.mono {B B' : Nat} {w : World} {o : Option Addr} {ps : List Int} (h : Ints B w o ps) (hB : B ≤ B') : Ints B' w o ps := by
  intro k hk
  obtain ⟨a, rfl, ha, hc⟩ := h k hk
  exact ⟨a, rfl, by omega, hc⟩
set_option maxRecDepth 20000 in
theorem Tryz.info2 : (Tryz.prog.info? 2).map (fun i => (i.zero, i.size, i.bytes)) = some (some (.int .i64 0), 1, 8) := by kernel_rfl
end Go.Proofs.YtdjghniinnfncaaGreatDoor
namespace Go.Proofs.YtdjghniinnfncaaGreatDoor
open Go.RowKit Go.Lib
set_option maxRecDepth 20000 in
theorem heap_alloc_at (w : World) (o : Obj) : (w.alloc o).heap[w.heap.size]? = some o := by
  show (w.heap.push o)[w.heap.size]? = some o
  simp
set_option maxRecDepth 20000 in
theorem heap_lt {w : World} {b : Nat} {o : Obj} (h : w.heap[b]? = some o) : b < w.heap.size := by
  rw [Array.getElem?_eq_some_iff] at h; exact h.1
set_option maxRecDepth 20000 in
theorem heap_alloc_old (w : World) (o : Obj) (g : Nat) (h : g < w.heap.size) : (w.alloc o).heap[g]? = w.heap[g]? := by
  show (w.heap.push o)[g]? = w.heap[g]?
  simp [Array.getElem?_push]
  omega
set_option maxRecDepth 20000 in
theorem two_cells {w : World} {b : Nat} {x y : Value} {t : TypeId} {z : Nat × Nat} (h : w.heap[b]? = some (.cells #[x, y] t z)) : w.cell? ⟨b, 0, none⟩ = some x ∧ w.cell? ⟨b, 1, none⟩ = some y := by
  constructor <;> simp [World.cell?, h]
set_option maxRecDepth 20000 in
theorem wpL_load_row {P : Program} {w : World} {ops : Array Oper} {rest : List Oper} {o : Oper} {a : Act} {Q : Exit → Act → World → Prop} (hg : o.guard = none) (ty : TypeId) (x : Operand) (ho : o.op = .load ty x)
    (g : Nat) (cs : Array Value) (t : TypeId) (fr : Nat × Nat) (d : TypeDesc) (hx : a.eval x = .pointer (some ⟨g, 0, none⟩)) (hgp : w.heap[g]? = some (.cells cs t fr))
    (hu : P.underlying ty = some d) (hd : (match d with | .struct _ | .array _ _ => true | _ => false) = true) (hi : (P.info? ty).map (·.size) = some cs.size)
    (h : wpList P ops Q rest (a.put o.dst (.agg cs)) w) : wpList P ops Q (o :: rest) a w := by
  refine wpList_plain hg fun K' hK' => ?_
  unfold Oper.wp execOp
  simp only [ho, hx, Instr.loadAt, Instr.sureAddr, Sem.run_bind, Sem.run_pure, Result.andThen_ok, run_loadVar_row w g t ty cs fr d hgp hu hd hi]
  exact hK' _ _ h
set_option maxRecDepth 20000 in
theorem wpL_store_row {P : Program} {w : World} {ops : Array Oper} {rest : List Oper} {o : Oper} {a : Act} {Q : Exit → Act → World → Prop} (hg : o.guard = none) (ty : TypeId) (x y : Operand) (ho : o.op = .store ty x y)
    (g : Nat) (cells : Array Value) (hx : a.eval x = .pointer (some ⟨g, 0, none⟩)) (hy : a.eval y = .agg cells)
    (t : TypeId) (old : Array Value) (hgp : w.heap[g]? = some (.cells old t (0, 0))) (hi : (P.info? ty).map (·.size) = some cells.size)
    (hold : old.size = cells.size) (h1 : cells.all (·.oneCell') = true)
    (h : wpList P ops Q rest (a.put o.dst undef) (w.setRow g cells)) : wpList P ops Q (o :: rest) a w := by
  refine wpList_plain hg fun K' hK' => ?_
  exact wp_store_row ty x y ho g cells hx hy t old hgp hi hold h1 (hK' _ _ h)
set_option maxRecDepth 20000 in
theorem grown_setRow (w : World) (g : Nat) (cs : Array Value) : w.grownBy (w.setRow g cs) (some g) :=
  ⟨rfl, rfl, rfl, by simp, fun i _ hi => setRow_other w g i cs (fun e => hi (by rw [e]))⟩
end Go.Proofs.YtdjghniinnfncaaGreatDoor
namespace Go.Proofs.YtdjghniinnfncaaGreatDoor
open Go.RowKit Go.Lib Go.Maps
set_option maxRecDepth 20000 in
theorem add_blockG (a : Addr) (n : Nat) : (a.add n).block = a.block := by unfold Addr.add; split <;> rfl
/-- The blocks from lo on and below hi are the same. -/
def Same (lo hi : Nat) (w w' : World) : Prop := ∀ k, lo ≤ k → k < hi → w'.heap[k]? = w.heap[k]?
set_option maxRecDepth 20000 in
theorem Same.cell {lo hi : Nat} {w w' : World} (h : Same lo hi w w') {p : Addr} (h1 : lo ≤ p.block) (h2 : p.block < hi) : w'.cell? p = w.cell? p := World.cell?_of_block (w := w) (h p.block h1 h2)
set_option maxRecDepth 20000 in
theorem Same.of_below {lo hi B : Nat} {w w' : World} (h : Below B w w') (hB : hi ≤ B) : Same lo hi w w' := fun k _ h2 => h.block k (Nat.lt_of_lt_of_le h2 hB)
set_option maxRecDepth 20000 in
theorem Same.gr {lo hi g : Nat} {w w' : World} (h : w.grownBy w' (some g)) (hg : g < lo) (hh : hi ≤ w.heap.size) : Same lo hi w w' := fun k h1 h2 => h.block k (Nat.lt_of_lt_of_le h2 hh) (by intro e; cases e; omega)
set_option maxRecDepth 20000 in
theorem grG_trans {a b c : World} {r : Option Nat} (h : a.grownBy b r) (k : b.grownBy c r) : a.grownBy c r :=
  ⟨k.os.trans h.os, k.tape.trans h.tape, k.output.trans h.output, Nat.le_trans h.size k.size, fun i hi hr => (k.block i (Nat.lt_of_lt_of_le hi h.size) hr).trans (h.block i hi hr)⟩
set_option maxRecDepth 20000 in
theorem hp_setG (w : World) (g j k : Nat) (v : Value) (h : g ≠ k) : (w.setCell ⟨g, j, none⟩ v).heap[k]? = w.heap[k]? := by
  simp [World.setCell, Array.getElem?_modify, h]
set_option maxRecDepth 20000 in
theorem grG_set (w : World) (g j : Nat) (v : Value) : w.grownBy (w.setCell ⟨g, j, none⟩ v) (some g) :=
  ⟨rfl, rfl, rfl, by simp [World.setCell], fun k _ hr => hp_setG _ _ _ _ _ (fun e => hr (by rw [e]))⟩
/-- All blocks from lo on are cells, and none of them is frozen. -/
def Soft (lo : Nat) (w : World) : Prop := ∀ k, lo ≤ k → k < w.heap.size → ∃ cs t, w.heap[k]? = some (.cells cs t (0, 0))
set_option maxRecDepth 20000 in
theorem Soft.refl (w : World) : Soft w.heap.size w := fun k h1 h2 => by omega
set_option maxRecDepth 20000 in
theorem Soft.alloc {lo : Nat} {w : World} (h : Soft lo w) (cs : Array Value) (t : TypeId) : Soft lo (w.alloc (.cells cs t)) := by
  intro k h1 h2
  by_cases hk : k < w.heap.size
  · rw [heap_alloc_old _ _ _ hk]
    exact h k h1 hk
  · rw [World.size_alloc] at h2
    have : k = w.heap.size := by omega
    rw [this]
    exact ⟨cs, t, heap_alloc_at _ _⟩
set_option maxRecDepth 20000 in
theorem Soft.set {lo : Nat} {w : World} (h : Soft lo w) (g j : Nat) (v : Value) : Soft lo (w.setCell ⟨g, j, none⟩ v) := by
  intro k h1 h2
  have h3 : k < w.heap.size := by simpa [World.setCell] using h2
  obtain ⟨cs, t, e⟩ := h k h1 h3
  by_cases hg : g = k
  · subst hg
    exact ⟨_, t, by simp [World.setCell, Array.getElem?_modify, e]; rfl⟩
  · rw [hp_setG _ _ _ _ _ hg]
    exact ⟨cs, t, e⟩
set_option maxRecDepth 20000 in
theorem Soft.setRow {lo : Nat} {w : World} (h : Soft lo w) (g : Nat) (cs : Array Value) : Soft lo (w.setRow g cs) := by
  intro k h1 h2
  have h3 : k < w.heap.size := by simpa using h2
  obtain ⟨c0, t, e⟩ := h k h1 h3
  by_cases hg : k = g
  · subst hg
    exact ⟨cs, t, setRow_heap _ _ _ _ _ _ e⟩
  · rw [setRow_other w g k cs hg]
    exact ⟨c0, t, e⟩
set_option maxRecDepth 20000 in
theorem Soft.call {lo : Nat} {w w' : World} (h : Soft lo w) (hb : Below w.heap.size w w') (h' : Soft w.heap.size w') : Soft lo w' := by
  intro k h1 h2
  by_cases hk : k < w.heap.size
  · rw [hb.block k hk]
    exact h k h1 hk
  · exact h' k (by omega) h2
set_option maxRecDepth 20000 in
theorem three_blocks {w V : World} {G : Nat} {o1 o2 o3 : Obj} (hG : w.heap.size = G) (hV : V = ((w.alloc o1).alloc o2).alloc o3) : Below G w V ∧ G + 3 ≤ V.heap.size ∧ V.heap[G]? = some o1 ∧ V.heap[G + 1]? = some o2 ∧ V.heap[G + 1 + 1]? = some o3 := by
  subst hV hG
  refine ⟨(((Below.refl _ _).alloc (Nat.le_refl _) _).alloc (by simp) _).alloc (by simp; omega) _, by simp, ?_, ?_, ?_⟩
  · rw [heap_alloc_old _ _ _ (by simp; omega), heap_alloc_old _ _ _ (by simp)]
    exact heap_alloc_at _ _
  · rw [heap_alloc_old _ _ _ (by simp)]
    have := heap_alloc_at (w.alloc o1) o2
    rw [World.size_alloc] at this
    exact this
  · have := heap_alloc_at ((w.alloc o1).alloc o2) o3
    rw [World.size_alloc, World.size_alloc] at this
    exact this
set_option maxRecDepth 20000 in
theorem two_blocks {w V : World} {o1 o2 : Obj} (hV : V = (w.alloc o1).alloc o2) : Below w.heap.size w V ∧ w.heap.size + 2 ≤ V.heap.size ∧ V.heap[w.heap.size]? = some o1 ∧ V.heap[w.heap.size + 1]? = some o2 := by
  subst hV
  refine ⟨((Below.refl _ _).alloc (Nat.le_refl _) _).alloc (by simp) _, by simp, ?_, ?_⟩
  · rw [heap_alloc_old _ _ _ (by simp)]
    exact heap_alloc_at _ _
  · have := heap_alloc_at (w.alloc o1) o2
    rw [World.size_alloc] at this
    exact this
set_option maxRecDepth 20000 in
theorem prod_le {n b : Nat} (h : n ≤ 1048576) (hb : b ≤ 400) : n * b ≤ 140737488351232 := Nat.le_trans (Nat.mul_le_mul h hb) (by decide)
def TxL (lo hi : Nat) (w : World) (o : Option Addr) (F : List ByteArray) : Prop := ∀ i (h : i < F.length), ∃ a, o = some a ∧ lo ≤ a.block ∧ a.block < hi ∧ w.cell? (a.add i) = some (.string F[i])
def InL (lo hi : Nat) (w : World) (o : Option Addr) (F : List Int) : Prop := ∀ i (h : i < F.length), ∃ a, o = some a ∧ lo ≤ a.block ∧ a.block < hi ∧ w.cell? (a.add i) = some (.int .i64 F[i])
set_option maxRecDepth 20000 in
theorem TxL.same {lo hi : Nat} {w w' : World} {o : Option Addr} {F : List ByteArray} (h : TxL lo hi w o F) (hs : Same lo hi w w') : TxL lo hi w' o F := by
  intro i hi
  obtain ⟨a, ho, h1, h2, h3⟩ := h i hi
  exact ⟨a, ho, h1, h2, (hs.cell (by rw [add_blockG]; exact h1) (by rw [add_blockG]; exact h2)).trans h3⟩
set_option maxRecDepth 20000 in
theorem InL.same {lo hi : Nat} {w w' : World} {o : Option Addr} {F : List Int} (h : InL lo hi w o F) (hs : Same lo hi w w') : InL lo hi w' o F := by
  intro i hi
  obtain ⟨a, ho, h1, h2, h3⟩ := h i hi
  exact ⟨a, ho, h1, h2, (hs.cell (by rw [add_blockG]; exact h1) (by rw [add_blockG]; exact h2)).trans h3⟩
set_option maxRecDepth 20000 in
theorem TxL.mono {lo lo' hi hi' : Nat} {w : World} {o : Option Addr} {F : List ByteArray} (h : TxL lo hi w o F) (hl : lo' ≤ lo) (hh : hi ≤ hi') : TxL lo' hi' w o F := by
  intro i hi
  obtain ⟨a, ho, h1, h2, h3⟩ := h i hi
  exact ⟨a, ho, Nat.le_trans hl h1, Nat.lt_of_lt_of_le h2 hh, h3⟩
set_option maxRecDepth 20000 in
theorem InL.mono {lo lo' hi hi' : Nat} {w : World} {o : Option Addr} {F : List Int} (h : InL lo hi w o F) (hl : lo' ≤ lo) (hh : hi ≤ hi') : InL lo' hi' w o F := by
  intro i hi
  obtain ⟨a, ho, h1, h2, h3⟩ := h i hi
  exact ⟨a, ho, Nat.le_trans hl h1, Nat.lt_of_lt_of_le h2 hh, h3⟩
set_option maxRecDepth 20000 in
theorem TxL.below {lo hi B : Nat} {w w' : World} {o : Option Addr} {F : List ByteArray} (h : TxL lo hi w o F) (hb : Below B w w') (hB : hi ≤ B) : TxL lo hi w' o F := h.same (Same.of_below hb hB)
set_option maxRecDepth 20000 in
theorem InL.below {lo hi B : Nat} {w w' : World} {o : Option Addr} {F : List Int} (h : InL lo hi w o F) (hb : Below B w w') (hB : hi ≤ B) : InL lo hi w' o F := h.same (Same.of_below hb hB)
set_option maxRecDepth 20000 in
theorem TxL.tx {lo hi : Nat} {w : World} {o : Option Addr} {F : List ByteArray} (h : TxL lo hi w o F) : Tx hi w o F := fun i hi => let ⟨a, ho, _, h2, h3⟩ := h i hi; ⟨a, ho, h2, h3⟩
set_option maxRecDepth 20000 in
theorem InL.ints {lo hi : Nat} {w : World} {o : Option Addr} {F : List Int} (h : InL lo hi w o F) : Ints hi w o F := fun i hi => let ⟨a, ho, _, h2, h3⟩ := h i hi; ⟨a, ho, h2, h3⟩
end Go.Proofs.YtdjghniinnfncaaGreatDoor
