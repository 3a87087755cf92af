
/- The program's AccessFault. -/
import Derived.Test.YtomncfpnpbncoaaSpecAccessFault
namespace Go.Proofs.Ytomncfpnpbncoaa
open Go.RowKit Go.Lib Go.Maps
namespace Au
/-- The byte as the program tells it. -/
def queryB (c : UInt8) : Bool := decide (33 ≤ c.toNat) && (decide (c.toNat ≤ 126) && (((c.toNat : Int) != 34) && (((c.toNat : Int) != 40) && ((c.toNat : Int) != 41))))
def userB (c : UInt8) : Bool := queryB c && (((c.toNat : Int) != 123) && ((c.toNat : Int) != 92))
set_option maxRecDepth 20000 in
theorem userB_fin : ∀ n : Fin 256, userB (UInt8.ofNat n.val) = byte (UInt8.ofNat n.val) := by decide +kernel
set_option maxRecDepth 20000 in
theorem userB_eq (c : UInt8) : userB c = byte c := by
  have h := userB_fin ⟨c.toNat, UInt8.toNat_lt c⟩
  rw [show UInt8.ofNat c.toNat = c from UInt8.ofNat_toNat] at h
  exact h
end Au
set_option maxRecDepth 20000 in
set_option maxHeartbeats 1000000 in
theorem implQueryB (c : UInt8) (w : World) : Calls Try.prog 21 #[.int .u8 (c.toNat : Int)] w fun e w' => e = .returned (.bool (Au.queryB c)) ∧ w = w' := by
  have h8 : c.toNat < 256 := UInt8.toNat_lt _
  unfold Au.queryB
  generalize c.toNat = k at *
  by_cases y0 : 33 ≤ k
  rotate_left
  · have u0 : decide ((33 : Int) ≤ (k : Int)) = false := decide_eq_false (by omega)
    rw [decide_eq_false y0, Bool.false_and]
    go_enter Try.func21, Try.ntmps21
    go_wp2
    go_ret
    exact ⟨rfl, rfl⟩
  have u0 : decide ((33 : Int) ≤ (k : Int)) = true := decide_eq_true (by omega)
  rw [decide_eq_true y0, Bool.true_and]
  by_cases y1 : k ≤ 126
  rotate_left
  · have u1 : decide ((k : Int) ≤ 126) = false := decide_eq_false (by omega)
    rw [decide_eq_false y1, Bool.false_and]
    go_enter Try.func21, Try.ntmps21
    go_wp2
    go_ret
    exact ⟨rfl, rfl⟩
  have u1 : decide ((k : Int) ≤ 126) = true := decide_eq_true (by omega)
  rw [decide_eq_true y1, Bool.true_and]
  cases h1 : ((k : Int) != 34)
  · go_enter Try.func21, Try.ntmps21
    go_wp2
    go_ret
    exact ⟨rfl, rfl⟩
  cases h2 : ((k : Int) != 40)
  · go_enter Try.func21, Try.ntmps21
    go_wp2
    go_ret
    exact ⟨rfl, rfl⟩
  cases h3 : ((k : Int) != 41)
  all_goals
    go_enter Try.func21, Try.ntmps21
    go_wp2
    go_ret
    exact ⟨rfl, rfl⟩
set_option maxRecDepth 20000 in
set_option maxHeartbeats 1000000 in
theorem implUserB (c : UInt8) (w : World) : Calls Try.prog 20 #[.int .u8 (c.toNat : Int)] w fun e w' => e = .returned (.bool (Au.byte c)) ∧ w = w' := by
  have h8 : c.toNat < 256 := UInt8.toNat_lt _
  have hQ := mkHid (implQueryB c w)
  rw [← Au.userB_eq]
  unfold Au.userB
  generalize Au.queryB c = q at *
  cases q <;> cases h1 : ((c.toNat : Int) != 123) <;> cases h2 : ((c.toNat : Int) != 92)
  all_goals
    go_enter Try.func20, Try.ntmps20
    go_wp2_with (go_at_call 21; go_must (refine hQ.out.mono ?_; rintro e w2 ⟨rfl, rfl⟩))
    go_ret
    exact ⟨rfl, rfl⟩
set_option maxRecDepth 20000 in
theorem kindUserB : Kind 20 Au.byte := ⟨Go.Proofs.enters_of Try.func20 (by kernel_rfl) rfl, implUserB⟩
set_option maxRecDepth 20000 in
set_option maxHeartbeats 1000000 in
theorem implUserText (t : ByteArray) (w : World) (hs : t.size ≤ 1048576) : Calls Try.prog 18 #[.string t] w fun e w' => e = .returned (.bool (Au.txt t)) ∧ w = w' := by
  have hA := mkHid (implAllOf kindUserB t w (by omega))
  have htl : t.data.toList = t.toList := (ByteArray.toList_eq t).symm
  unfold Au.txt
  generalize t.data.toList.all Au.byte = b at *
  by_cases h1 : 1 ≤ t.size
  rotate_left
  · have h0 : t.size = 0 := by omega
    have he : (t.toList == []) = true := by
      rw [← htl]; simp; exact Array.eq_empty_of_size_eq_zero h0
    have hn : (t.toList != []) = false := by rw [bne, he]; rfl
    have hp : t.toList = [] := by simpa using he
    rw [decide_eq_false h1, Bool.false_and]
    clear htl h0
    go_enter Try.func18, Try.ntmps18
    go_wp2
    go_ret
    exact ⟨rfl, rfl⟩
  have he : (t.toList == []) = false := by
    rw [← htl]; simp; intro h; have h3 : t.size = 0 := by show t.data.size = 0; rw [h]; rfl
    omega
  have hn : (t.toList != []) = true := by rw [bne, he]; rfl
  have hp : ¬ t.toList = [] := by simpa using he
  rw [decide_eq_true h1, Bool.true_and]
  clear htl
  by_cases h2 : t.size ≤ 40
  rotate_left
  · have x2 : decide ((t.size : Int) ≤ 40) = false := decide_eq_false (by omega)
    rw [decide_eq_false h2, Bool.false_and]
    go_enter Try.func18, Try.ntmps18
    go_wp2
    go_ret
    exact ⟨rfl, rfl⟩
  have x2 : decide ((t.size : Int) ≤ 40) = true := decide_eq_true (by omega)
  rw [decide_eq_true h2, Bool.true_and]
  cases b
  all_goals
    go_enter Try.func18, Try.ntmps18
    go_wp2_with (go_at_call 19; go_must (refine hA.out.mono ?_; rintro e w2 ⟨rfl, rfl⟩))
    go_ret
    exact ⟨rfl, rfl⟩
abbrev bxU (n : GAccessUser) : Obj := .cells #[.string n.name, .string n.password, .bool n.readOnly] 33
set_option maxRecDepth 20000 in
set_option maxHeartbeats 1000000 in
theorem implNoUser (n : GAccessUser) (w : World) (hf : n.fits 1048576) : Calls Try.prog 14 #[GAccessUserV n] w fun e w' => e = .returned (.bool (!Au.ok n)) ∧ Below w.heap.size w w' := by
  obtain ⟨f0, f1⟩ := hf
  have cA := mkHid (fun w' => implUserText n.name w' f0)
  have cB := mkHid (fun w' => implUserText n.password w' f1)
  unfold Au.ok GAccessUserV
  generalize Au.txt n.name = b1 at *
  generalize Au.txt n.password = b2 at *
  have hb : Below w.heap.size w (w.alloc (bxU n)) := (Below.refl _ _).alloc (Nat.le_refl _) _
  cases b1
  · go_enter Try.func14, Try.ntmps14
    go_wp2_with (go_at_call 18; fail)
    refine (cA.out _).mono ?_
    rintro e w2 ⟨rfl, rfl⟩
    go_wp2
    go_ret
    exact ⟨rfl, hb⟩
  · cases b2
    all_goals
      go_enter Try.func14, Try.ntmps14
      go_wp2_with (go_at_call 18; fail)
      refine (cA.out _).mono ?_
      rintro e w2 ⟨rfl, rfl⟩
      go_wp2_with (go_at_call 18; fail)
      refine (cB.out _).mono ?_
      rintro e w2 ⟨rfl, rfl⟩
      go_wp2
      go_ret
      exact ⟨rfl, hb⟩
set_option maxRecDepth 20000 in
set_option maxHeartbeats 2000000 in
theorem implIndexU (o : Option Addr) (F : List GAccessUser) (cap lo : Nat) (w : World) (hF : GAccessUsersL lo w.heap.size w o F) (hl : F.length ≤ 1048576) (hsz : ∀ t ∈ F, t.fits 1048576) :
    Calls Try.prog 17 #[.slice o F.length cap, .func (.func 14) #[] #[]] w fun e w' => ∃ i : Int, e = .returned (.int .i64 i) ∧ decide (0 ≤ i) = !F.all Au.ok ∧ Below w.heap.size w w' := by
  have hE : ∀ (args : Array Value) (w : World), (callFunc 14 args).run Try.prog w = .ok (.enter 14 args) w := Go.Proofs.enters_of Try.func14 (by kernel_rfl) rfl
  have HF := mkHid hF
  have Hsz := mkHid hsz
  clear hF hsz
  obtain ⟨R, hR⟩ : ∃ R, F.all Au.ok = R := ⟨_, rfl⟩
  have HR : Hid ((F.drop 0).all Au.ok = R) := hR
  rw [hR]
  clear hR
  go_enter Try.func17, Try.ntmps17
  go_wp2
  go_loopw [5, 8] (fun _ iv wr => ∃ k : Nat, k ≤ F.length ∧ iv = .int .i64 k ∧ Hid ((F.drop k).all Au.ok = R) ∧ Hid (Below w.heap.size w wr)) (fun _ iv _ => F.length - (Lib.intOf iv).toNat)
  case atStart => exact ⟨0, Nat.zero_le _, rfl, HR, Below.refl _ _⟩
  case round =>
    clear HR
    obtain ⟨k, hk, rfl, hp, hB⟩ := hrel
    by_cases hlt : k < F.length
    · obtain ⟨a, rfl, ha1, ha2, hAt⟩ := ((HF.out.below hB.out (Nat.le_refl _)).mono (Nat.le_refl _) hB.out.size) k hlt
      have hst := Au.all_drop Au.ok F k hlt
      rw [hp.out] at hst
      have cN := mkHid (implNoUser F[k] wr (Hsz.out _ (List.getElem_mem hlt)))
      have d0 := hAt.c0
      have d1 := hAt.c1
      have d2 := hAt.c2
      clear hAt
      have Hst := mkHid hst
      clear hst hp
      unfold GAccessUserV at cN
      generalize Au.ok F[k] = nb at *
      generalize F[k] = x at *
      go_wp2_with fail
      refine cN.out.mono ?_
      rintro e w1 ⟨rfl, hb1⟩
      have hB1 := mkHid (hB.out.trans (hb1.mono hB.out.size))
      clear cN hb1 hB
      cases nb
      · have hR : R = false := by rw [Hst.out, Bool.false_and]
        subst hR
        clear Hst
        go_wp2
        go_ret
        exact ⟨k, rfl, by simp, hB1.out⟩
      · have HN : Hid ((F.drop (k + 1)).all Au.ok = R) := by show _ = _; rw [Hst.out, Bool.true_and]
        clear Hst
        go_wp2
        go_roundw
        case rel => exact ⟨k + 1, by omega, by go_num, HN, hB1⟩
        case measure => simp [Lib.intOf]; omega
    · have hR : R = true := by rw [← hp.out, List.drop_eq_nil_of_le (by omega)]; rfl
      subst hR
      clear hp
      go_wp2
      go_ret
      exact ⟨-1, rfl, rfl, hB.out⟩
set_option maxRecDepth 20000 in
theorem implContainsU (o : Option Addr) (F : List GAccessUser) (cap lo : Nat) (w : World) (hF : GAccessUsersL lo w.heap.size w o F) (hl : F.length ≤ 1048576) (hsz : ∀ t ∈ F, t.fits 1048576) :
    Calls Try.prog 13 #[.slice o F.length cap, .func (.func 14) #[] #[]] w fun e w' => e = .returned (.bool (!F.all Au.ok)) ∧ Below w.heap.size w w' := by
  have hI := mkHid (implIndexU o F cap lo w hF hl hsz)
  clear hF hsz
  go_enter Try.func13, Try.ntmps13
  go_wp2_with fail
  refine hI.out.mono ?_
  rintro e w2 ⟨i, rfl, hi, hb⟩
  go_wp2
  go_ret
  exact ⟨by rw [← hi]; rfl, hb⟩
set_option maxRecDepth 20000 in
theorem implFormU (b : Bool) (w : World) : Calls Try.prog 12 #[.bool b] w fun e w' => e = .returned (.int .i64 (dcode b)) ∧ w = w' := by
  cases b
  all_goals
    go_enter Try.func12, Try.ntmps12
    go_wp2
    go_ret
    exact ⟨rfl, rfl⟩
set_option maxRecDepth 20000 in
set_option maxHeartbeats 1000000 in
theorem implAccessFault (o : Option Addr) (F : List GAccessUser) (cap lo : Nat) (w : World) (hF : GAccessUsersL lo w.heap.size w o F) (hl : F.length ≤ 1048576) (hf : ∀ f ∈ F, f.fits 1048576) :
    Calls Try.prog 7 #[.slice o F.length cap] w fun e w' => e = .returned (.int .i64 (plAccessFault F)) ∧ Below w.heap.size w w' := by
  have hI := mkHid (implContainsU o F cap lo w hF hl hf)
  clear hF hf
  unfold plAccessFault
  generalize F.all Au.ok = b at *
  by_cases x : F.length ≤ 20
  · have y : decide ((F.length : Int) ≤ 20) = true := by simp; omega
    rw [decide_eq_true x, Bool.true_and]
    cases b
    all_goals
      go_enter Try.func7, Try.ntmps7
      go_wp2_with first | (go_at_call 13; go_must (refine hI.out.mono ?_; rintro e w2 ⟨rfl, hb2⟩)) | (go_at_call 12; go_must (refine (implFormU _ _).mono ?_; rintro e w3 ⟨rfl, rfl⟩))
      go_ret
      exact ⟨rfl, hb2⟩
  · have y : decide ((F.length : Int) ≤ 20) = false := by simp; omega
    rw [decide_eq_false x, Bool.false_and]
    clear hI
    go_enter Try.func7, Try.ntmps7
    go_wp2_with (go_at_call 12; go_must (refine (implFormU _ _).mono ?_; rintro e w3 ⟨rfl, rfl⟩))
    go_ret
    exact ⟨rfl, Below.refl _ _⟩
end Go.Proofs.Ytomncfpnpbncoaa
