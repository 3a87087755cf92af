
/- The program's small tests on stores: numbers, flags, lists that rise. -/
import Derived.Test.YtbepjjnjdhkcbaaDoorImplFlag
import Derived.Test.YtbepjjnjdhkcbaaDoorFuncT
import Derived.Test.YtbepjjnjdhkcbaaDoorSpecFlags
import Derived.Test.YtbepjjnjdhkcbaaDoorAppN
namespace Go.Proofs.YtbepjjnjdhkcbaaDoor
open Go.RowKit Go.Lib Go.Maps
namespace St
def riseIP : Int → List Int → Bool
  | _, [] => true
  | p, c :: r => decide (p < c) && riseIP c r
def riseI : List Int → Bool
  | [] => true
  | c :: r => riseIP c r
set_option maxRecDepth 20000 in
theorem riseI_step (p : Int) (l : List Int) (k : Nat) (h : k < l.length) : riseIP p (l.drop k) = (decide (p < l[k]) && riseIP l[k] (l.drop (k + 1))) := by
  rw [List.drop_eq_getElem_cons h, riseIP]
def within (z a b : Int) : Bool := decide (a ≤ z) && decide (z ≤ b)
def given (nu tm u m : Int) : Bool := within u 1 (nu - 1) && within m 1 tm
end St
set_option maxRecDepth 20000 in
theorem implFromTo (z a b : Int) (w : World) : Calls Tryd.prog 24 #[.int .i64 z, .int .i64 a, .int .i64 b] w fun e w' => e = .returned (.bool (St.within z a b)) ∧ w = w' := by
  unfold St.within
  cases h1 : decide (a ≤ z) <;> cases h2 : decide (z ≤ b)
  all_goals
    go_enter Tryd.func24, Tryd.ntmps24
    go_wp2
    go_ret
    exact ⟨rfl, rfl⟩
set_option maxRecDepth 20000 in
theorem implTime (z : Int) (w : World) : Calls Tryd.prog 58 #[.int .i64 z] w fun e w' => e = .returned (.bool (St.within z 0 253402300799)) ∧ w = w' := by
  unfold St.within
  cases h1 : decide (0 ≤ z) <;> cases h2 : decide (z ≤ 253402300799)
  all_goals
    go_enter Tryd.func58, Tryd.ntmps58
    go_wp2
    go_ret
    exact ⟨rfl, rfl⟩
set_option maxRecDepth 20000 in
set_option maxHeartbeats 1000000 in
theorem implGiven (g : Nat) (u m nu tm : Int) (w : World) (c2 : w.cell? ⟨g, 2, none⟩ = some (.int .i64 nu)) (c3 : w.cell? ⟨g, 3, none⟩ = some (.int .i64 tm)) (h0 : 1 ≤ nu) (h1 : nu ≤ 4294967295) :
    Calls Tryd.prog 57 #[.pointer (some ⟨g, 0, none⟩), .int .i64 u, .int .i64 m] w fun e w' => e = .returned (.bool (St.given nu tm u m)) ∧ w = w' := by
  have hw : IntKind.i64.wrap (nu - 1) = nu - 1 := wrap_inS _ (by omega) (by omega)
  have cA := mkHid (implFromTo u 1 (nu - 1) w)
  have cB := mkHid (implFromTo m 1 tm w)
  unfold St.given
  generalize St.within m 1 tm = y at *
  cases hx : St.within u 1 (nu - 1)
  all_goals
    rw [hx] at cA
    clear hx
    go_enter Tryd.func57, Tryd.ntmps57
    go_wp2_with fail
    refine cA.out.mono ?_
    rintro e w1 ⟨rfl, rfl⟩
    clear cA
    first
    | (go_wp2_with fail
       refine cB.out.mono ?_
       rintro e w2 ⟨rfl, rfl⟩
       go_wp2
       go_ret
       exact ⟨rfl, rfl⟩)
    | (go_wp2
       go_ret
       exact ⟨rfl, rfl⟩)
set_option maxRecDepth 20000 in
theorem kindNoFlag : KindT 72 (fun t => !St.flag t) := ⟨Go.Proofs.enters_of Tryd.func72 (by kernel_rfl) rfl, implNoFlag⟩
set_option maxRecDepth 20000 in
set_option maxHeartbeats 1000000 in
theorem implFlags (o : Option Addr) (F : List ByteArray) (cap lo : Nat) (w : World) (hF : TxL lo w.heap.size w o F) (hl : F.length ≤ 1048576) (hfit : ∀ t ∈ F, t.size ≤ 1048576) :
    Calls Tryd.prog 60 #[.slice o F.length cap] w fun e w' => e = .returned (.bool (St.flags F)) ∧ w = w' := by
  have cC := mkHid (implContainsT kindNoFlag o F cap w hF.tx hl hfit)
  unfold St.flags
  rw [show (F.any fun t => !St.flag t) = !F.all St.flag by rw [List.not_all_eq_any_not]] at cC
  generalize F.all St.flag = y at *
  by_cases h : F.length ≤ 20
  · rw [decide_eq_true h, Bool.true_and]
    have x1 : decide ((F.length : Int) ≤ 20) = true := decide_eq_true (by omega)
    cases y
    all_goals
      go_enter Tryd.func60, Tryd.ntmps60
      go_wp2_with fail
      refine cC.out.mono ?_
      rintro e w1 ⟨rfl, rfl⟩
      go_wp2
      go_ret
      exact ⟨rfl, rfl⟩
  · rw [decide_eq_false h, Bool.false_and]
    have x1 : decide ((F.length : Int) ≤ 20) = false := decide_eq_false (by omega)
    clear cC
    go_enter Tryd.func60, Tryd.ntmps60
    go_wp2
    go_ret
    exact ⟨rfl, rfl⟩
set_option maxRecDepth 20000 in
set_option maxHeartbeats 1000000 in
theorem implRise (o : Option Addr) (F : List ByteArray) (cap lo : Nat) (w : World) (hF : TxL lo w.heap.size w o F) (hl : F.length ≤ 1048576) :
    Calls Tryd.prog 28 #[.slice o F.length cap] w fun e w' => e = .returned (.bool (St.rise F)) ∧ Below w.heap.size w w' := by
  obtain ⟨A, hA⟩ : ∃ A, St.rise F = A := ⟨_, rfl⟩
  rw [hA]
  have hA0 : Hid (F.length = 0 → A = true) := show _ → _ from fun h => by rw [← hA, List.length_eq_zero_iff.1 h]; rfl
  have hA1 : Hid (∀ h : 0 < F.length, St.riseP F[0] (F.drop 1) = A) := show ∀ h, _ from fun h => by
    rw [← hA]
    cases F with
    | nil => cases h
    | cons c r => rfl
  have HF := mkHid hF
  clear hF hA
  go_enter Tryd.func28, Tryd.ntmps28
  go_wp2
  go_loopw [3] (fun iv wr => ∃ k i : Nat, k ≤ F.length ∧ iv = .int .i64 (i : Int) ∧ Hid (i = k + 1) ∧ Hid (∀ h : k < F.length, St.riseP F[k] (F.drop (k + 1)) = A) ∧ Hid (k = F.length → A = true) ∧ Below w.heap.size w wr) (fun i _ => F.length + 1 - (Lib.intOf i).toNat)
  case atStart => exact ⟨0, 1, Nat.zero_le _, rfl, rfl, hA1, show _ → _ from fun h => hA0.out h.symm, Below.refl _ _⟩
  case round =>
    clear hA0 hA1
    obtain ⟨k, i, hk, rfl, hik, hal, hend, hb⟩ := hrel
    have hi2 : i ≤ F.length + 1 := by have := hik.out; omega
    by_cases hlt' : i < F.length
    · have hlt : k + 1 < F.length := by have := hik.out; omega
      obtain ⟨a, rfl, ha1, ha2, c0⟩ := (HF.out.below hb (Nat.le_refl _)) k (by omega)
      obtain ⟨a', ea, -, -, c1⟩ := (HF.out.below hb (Nat.le_refl _)) (k + 1) hlt
      cases ea
      have hst := hal.out (by omega)
      rw [St.rise_step _ F (k + 1) hlt] at hst
      have hji : (i : Int) - 1 = (k : Int) := by have := hik.out; omega
      have hwj : IntKind.i64.wrap (k : Int) = (k : Int) := wrap_inS _ (by omega) (by omega)
      have hjI : (0 : Int) ≤ (k : Int) ∧ (k : Int) < (F.length : Int) := ⟨by omega, by omega⟩
      obtain ⟨c, hc⟩ : ∃ c, c = F[k + 1]'hlt := ⟨_, rfl⟩
      obtain ⟨p, hp⟩ : ∃ p, p = F[k]'(by omega) := ⟨_, rfl⟩
      rw [← hc] at hst c1
      rw [← hp] at hst c0
      rw [← hik.out] at c1
      obtain ⟨R, hR⟩ : ∃ R, St.riseP c (F.drop (k + 1 + 1)) = R := ⟨_, rfl⟩
      rw [hR] at hst
      have HR : Hid (∀ h : k + 1 < F.length, St.riseP (F[k + 1]'h) (F.drop (k + 1 + 1)) = R) := show ∀ h, _ from fun h => by rw [← hc]; exact hR
      replace hlt := mkHid hlt
      clear hR hal hend hc hp
      unfold St.lessB at hst
      cases hx : Op.bytesLess p.toList c.toList
      · rw [hx] at hst
        have hf : Hid (A = false) := hst.symm
        clear hst
        go_wp2
        go_quiet (fail)
        go_wp2
        go_ret
        rw [hf.out]
        exact ⟨rfl, below_drewN hb _⟩
      · rw [hx] at hst
        have hf : Hid (R = A) := hst
        clear hst
        go_wp2
        go_quiet (fail)
        have hbq := mkHid (below_drewN hb nq)
        go_wp2
        go_roundw
        case rel => exact ⟨k + 1, i + 1, by have := hlt.out; omega, by go_num, by show _ = _; have := hik.out; omega, fun h => (HR.out h).trans hf.out, show _ → _ from fun h => absurd h (by have := hlt.out; omega), hbq.out⟩
        case measure => simp [Lib.intOf]; omega
    · have hf : Hid (A = true) := by
        by_cases hk1 : k = F.length
        · exact hend.out hk1
        · have hik' := hik.out
          have := hal.out (by omega)
          rw [List.drop_eq_nil_of_le (by omega)] at this
          exact this.symm
      go_wp2
      go_ret
      rw [hf.out]
      exact ⟨rfl, hb⟩
set_option maxRecDepth 20000 in
set_option maxHeartbeats 1000000 in
theorem implRiseI (o : Option Addr) (F : List Int) (cap lo : Nat) (w : World) (hF : InL lo w.heap.size w o F) (hl : F.length ≤ 1048576) :
    Calls Tryd.prog 55 #[.slice o F.length cap] w fun e w' => e = .returned (.bool (St.riseI F)) ∧ Below w.heap.size w w' := by
  obtain ⟨A, hA⟩ : ∃ A, St.riseI F = A := ⟨_, rfl⟩
  rw [hA]
  have hA0 : Hid (F.length = 0 → A = true) := show _ → _ from fun h => by rw [← hA, List.length_eq_zero_iff.1 h]; rfl
  have hA1 : Hid (∀ h : 0 < F.length, St.riseIP F[0] (F.drop 1) = A) := show ∀ h, _ from fun h => by
    rw [← hA]
    cases F with
    | nil => cases h
    | cons c r => rfl
  have HF := mkHid hF
  clear hF hA
  go_enter Tryd.func55, Tryd.ntmps55
  go_wp2
  go_loopw [3] (fun iv wr => ∃ k i : Nat, k ≤ F.length ∧ iv = .int .i64 (i : Int) ∧ Hid (i = k + 1) ∧ Hid (∀ h : k < F.length, St.riseIP F[k] (F.drop (k + 1)) = A) ∧ Hid (k = F.length → A = true) ∧ Below w.heap.size w wr) (fun i _ => F.length + 1 - (Lib.intOf i).toNat)
  case atStart => exact ⟨0, 1, Nat.zero_le _, rfl, rfl, hA1, show _ → _ from fun h => hA0.out h.symm, Below.refl _ _⟩
  case round =>
    clear hA0 hA1
    obtain ⟨k, i, hk, rfl, hik, hal, hend, hb⟩ := hrel
    have hi2 : i ≤ F.length + 1 := by have := hik.out; omega
    by_cases hlt' : i < F.length
    · have hlt : k + 1 < F.length := by have := hik.out; omega
      obtain ⟨a, rfl, ha1, ha2, c0⟩ := (HF.out.below hb (Nat.le_refl _)) k (by omega)
      obtain ⟨a', ea, -, -, c1⟩ := (HF.out.below hb (Nat.le_refl _)) (k + 1) hlt
      cases ea
      have hst := hal.out (by omega)
      rw [St.riseI_step _ F (k + 1) hlt] at hst
      have hji : (i : Int) - 1 = (k : Int) := by have := hik.out; omega
      have hwj : IntKind.i64.wrap (k : Int) = (k : Int) := wrap_inS _ (by omega) (by omega)
      have hjI : (0 : Int) ≤ (k : Int) ∧ (k : Int) < (F.length : Int) := ⟨by omega, by omega⟩
      obtain ⟨c, hc⟩ : ∃ c, c = F[k + 1]'hlt := ⟨_, rfl⟩
      obtain ⟨p, hp⟩ : ∃ p, p = F[k]'(by omega) := ⟨_, rfl⟩
      rw [← hc] at hst c1
      rw [← hp] at hst c0
      rw [← hik.out] at c1
      obtain ⟨R, hR⟩ : ∃ R, St.riseIP c (F.drop (k + 1 + 1)) = R := ⟨_, rfl⟩
      rw [hR] at hst
      have HR : Hid (∀ h : k + 1 < F.length, St.riseIP (F[k + 1]'h) (F.drop (k + 1 + 1)) = R) := show ∀ h, _ from fun h => by rw [← hc]; exact hR
      replace hlt := mkHid hlt
      clear hR hal hend hc hp
      cases hx : decide (p < c)
      · rw [hx] at hst
        have hx2 : decide (c ≤ p) = true := by simp at hx ⊢; omega
        have hf : Hid (A = false) := hst.symm
        clear hst
        go_wp2
        go_quiet (fail)
        go_wp2
        go_ret
        rw [hf.out]
        exact ⟨rfl, below_drewN hb _⟩
      · rw [hx] at hst
        have hx2 : decide (c ≤ p) = false := by simp at hx ⊢; omega
        have hf : Hid (R = A) := hst
        clear hst
        go_wp2
        go_quiet (fail)
        have hbq := mkHid (below_drewN hb nq)
        go_wp2
        go_roundw
        case rel => exact ⟨k + 1, i + 1, by have := hlt.out; omega, by go_num, by show _ = _; have := hik.out; omega, fun h => (HR.out h).trans hf.out, show _ → _ from fun h => absurd h (by have := hlt.out; omega), hbq.out⟩
        case measure => simp [Lib.intOf]; omega
    · have hf : Hid (A = true) := by
        by_cases hk1 : k = F.length
        · exact hend.out hk1
        · have hik' := hik.out
          have := hal.out (by omega)
          rw [List.drop_eq_nil_of_le (by omega)] at this
          exact this.symm
      go_wp2
      go_ret
      rw [hf.out]
      exact ⟨rfl, hb⟩
set_option maxRecDepth 20000 in
set_option maxHeartbeats 2000000 in
theorem implUids (o : Option Addr) (M : List GMail) (cap lo : Nat) (w : World) (hM : GMailsL lo w.heap.size w o M) (hl : M.length ≤ 300) :
    Calls Tryd.prog 56 #[.slice o M.length cap] w fun e w' => ∃ y : Value, e = .returned y ∧ Hid (OwnN w.heap.size y (M.map (·.uid)) w') ∧ Below w.heap.size w w' := by
  have HM := mkHid hM
  clear hM
  go_enter Tryd.func56, Tryd.ntmps56
  go_wp2
  go_loopw [3, 8] (fun yv iv wr => ∃ (i : Nat) (C : List Int), i ≤ M.length ∧ iv = .int .i64 i ∧ C.length ≤ i ∧ Hid (C ++ (M.drop i).map (·.uid) = M.map (·.uid)) ∧ Hid (OwnN w.heap.size yv C wr) ∧ Hid (Below w.heap.size w wr)) (fun _ iv _ => M.length - (Lib.intOf iv).toNat)
  case atStart => exact ⟨0, [], Nat.zero_le _, rfl, Nat.le_refl _, rfl, OwnN.nil _ _, Below.refl _ _⟩
  case round =>
    obtain ⟨i, C, hi, rfl, hCl, hz, hown, hB⟩ := hrel
    by_cases hlt : i < M.length
    · obtain ⟨a, v3, rfl, ha1, ha2, hA, hIn⟩ := (HM.out.below hB.out (Nat.le_refl _)) i hlt
      obtain ⟨⟨a3, k3, rfl, -⟩⟩ := hIn
      have c0 := hA.c0
      have c1 := hA.c1
      have c2 := hA.c2
      have c3 := hA.c3
      have c4 := hA.c4
      have hz1 := hz.out
      rw [List.drop_eq_getElem_cons hlt, List.map_cons] at hz1
      clear hA hz
      generalize M[i] = m at *
      generalize m.uid = uid at *
      generalize m.modF = mm at *
      generalize m.time = tm at *
      generalize m.flags.length = nf at *
      generalize m.message = ms at *
      have hz2 : Hid ((C ++ [uid]) ++ (M.drop (i + 1)).map (·.uid) = M.map (·.uid)) := by rw [List.append_assoc]; exact hz1
      obtain ⟨V, hV⟩ : ∃ V, V = wr.alloc (.cells #[.int .i64 uid, .int .i64 mm, .int .i64 tm, .slice a3 nf k3, .string ms] 53) := ⟨_, rfl⟩
      have hVs : V.heap.size = wr.heap.size + 1 := by rw [hV]; simp
      have bV : Below wr.heap.size wr V := by rw [hV]; exact (Below.refl _ _).alloc (Nat.le_refl _) _
      replace hown := mkHid (hown.out.below bV)
      have hbs : w.heap.size ≤ wr.heap.size := hB.out.size
      replace hB := mkHid (hB.out.trans (bV.mono hbs))
      have hnb : Hid (∀ k, (u3).ownBlock = some k → w.heap.size ≤ k) := fun k hk => (World.ownsRow.lt hown.out k hk).1
      have HV := mkHid hV
      clear hV bV hz1
      go_wp2_with (first | (at_builtin; go_must (rw [← HV.out]; refine wp_appN rfl _ _ rfl w.heap.size u3 C rfl hown.out uid 1 (by rw [hVs]; rfl) (by omega) (by omega) ?_; intro y5 w6 hown5 hg5; refine Hid.out ?_)) | fail)
      have hB6 : Hid (Below w.heap.size w w6) := (hB.out.alloc (by omega) (.cells #[.int .i64 uid] 2)).grown hg5 (by simp; omega) (fun k hk => hnb.out k hk)
      replace hown5 := mkHid hown5
      clear hg5 hnb hown hB c0 c1 c2 c3 c4
      refine mkHid ?_
      go_wp2
      go_roundw
      case rel => exact ⟨i + 1, C ++ [uid], by omega, by go_num, by simp; omega, hz2, hown5, hB6⟩
      case measure => simp [Lib.intOf]; omega
    · have hz1 : C = M.map (·.uid) := by
        have := hz.out
        rw [List.drop_eq_nil_of_le (by omega), List.map_nil, List.append_nil] at this
        exact this
      subst hz1
      clear hz
      go_wp2
      go_ret
      exact ⟨_, rfl, hown, hB.out⟩
set_option maxRecDepth 20000 in
set_option maxHeartbeats 1000000 in
theorem implIndexS (o : Option Addr) (F : List ByteArray) (cap lo : Nat) (t : ByteArray) (w : World) (hF : TxL lo w.heap.size w o F) (hl : F.length ≤ 1048576) :
    Calls Tryd.prog 43 #[.slice o F.length cap, .string t] w fun e w' => ∃ i : Int, e = .returned (.int .i64 i) ∧ decide (0 ≤ i) = (F.any fun x => x.toList == t.toList) ∧ w = w' := by
  have HF := mkHid hF
  clear hF
  obtain ⟨R, hR⟩ : ∃ R, (F.any fun x => x.toList == t.toList) = R := ⟨_, rfl⟩
  have HR : Hid (((F.drop 0).any fun x => x.toList == t.toList) = R) := hR
  rw [hR]
  clear hR
  go_enter Tryd.func43, Tryd.ntmps43
  go_wp2
  go_loopw [5, 8] (fun _ i wr => ∃ k : Nat, k ≤ F.length ∧ i = .int .i64 k ∧ Hid (((F.drop k).any fun x => x.toList == t.toList) = R) ∧ wr = w) (fun _ i _ => F.length - (Lib.intOf i).toNat)
  case atStart => exact ⟨0, Nat.zero_le _, rfl, HR, rfl⟩
  case round =>
    clear HR
    obtain ⟨k, hk, rfl, hp, rfl⟩ := hrel
    by_cases hlt : k < F.length
    · obtain ⟨a, rfl, -, ha, hc0⟩ := HF.out k hlt
      have hst := any_dropT (fun x => x.toList == t.toList) F k hlt
      rw [hp.out] at hst
      clear hp
      generalize F[k] = x at *
      have hsy : (t.toList == x.toList) = (x.toList == t.toList) := by rw [Bool.eq_iff_iff]; simp only [beq_iff_eq]; exact eq_comm
      cases hx : (x.toList == t.toList)
      · have HN : Hid (((F.drop (k + 1)).any fun x => x.toList == t.toList) = R) := by show _ = _; rw [hst, hx, Bool.false_or]
        rw [hx] at hsy
        clear hst
        go_wp2
        go_roundw
        case rel => exact ⟨k + 1, by omega, by go_num, HN, trivial⟩
        case measure => simp [Lib.intOf]; omega
      · have hR : R = true := by rw [hst, hx, Bool.true_or]
        subst hR
        rw [hx] at hsy
        clear hst
        go_wp2
        go_ret
        exact ⟨k, rfl, by simp, rfl⟩
    · have hR : R = false := by rw [← hp.out, List.drop_eq_nil_of_le (by omega)]; rfl
      subst hR
      clear hp
      go_wp2
      go_ret
      exact ⟨-1, rfl, rfl, rfl⟩
set_option maxRecDepth 20000 in
theorem implContainsS (o : Option Addr) (F : List ByteArray) (cap lo : Nat) (t : ByteArray) (w : World) (hF : TxL lo w.heap.size w o F) (hl : F.length ≤ 1048576) :
    Calls Tryd.prog 29 #[.slice o F.length cap, .string t] w fun e w' => e = .returned (.bool (F.any fun x => x.toList == t.toList)) ∧ w = w' := by
  have hI := mkHid (implIndexS o F cap lo t w hF hl)
  clear hF
  go_enter Tryd.func29, Tryd.ntmps29
  go_wp2_with fail
  refine hI.out.mono ?_
  rintro e w2 ⟨i, rfl, hi, rfl⟩
  go_wp2
  go_ret
  exact ⟨by rw [← hi]; rfl, rfl⟩
end Go.Proofs.YtbepjjnjdhkcbaaDoor
