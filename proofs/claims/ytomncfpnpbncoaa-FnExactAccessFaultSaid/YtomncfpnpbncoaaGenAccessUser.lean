
/- AccessUser: as the law has it and as the program has it; handed in, made anew, held against one another. (By tools/gen/structs.py.) -/
import Derived.Test.YtomncfpnpbncoaaGenBase
namespace Go.Proofs.Ytomncfpnpbncoaa
open Go.RowKit Go.Lib Go.Maps
structure GAccessUser where
  name : ByteArray
  password : ByteArray
  readOnly : Bool
def GAccessUserV (n : GAccessUser) : Value := .agg #[.string n.name, .string n.password, .bool n.readOnly]
def GAccessUser.fits (n : GAccessUser) (m : Nat) : Prop := n.name.size ≤ m ∧ n.password.size ≤ m
structure GAccessUserAt (w : World) (A : Addr) (n : GAccessUser) : Prop where
  c0 : w.cell? A = some (.string n.name)
  c1 : w.cell? ⟨A.block, A.off + 1, none⟩ = some (.string n.password)
  c2 : w.cell? ⟨A.block, A.off + 2, none⟩ = some (.bool n.readOnly)
theorem GAccessUserAt.same {lo hi : Nat} {w w' : World} {A : Addr} {n : GAccessUser} (h : GAccessUserAt w A n) (hs : Same lo hi w w') (h1 : lo ≤ A.block) (h2 : A.block < hi) : GAccessUserAt w' A n :=
  ⟨(hs.cell h1 h2).trans h.c0, (hs.cell (p := ⟨A.block, A.off + 1, none⟩) h1 h2).trans h.c1, (hs.cell (p := ⟨A.block, A.off + 2, none⟩) h1 h2).trans h.c2⟩
def GAccessUsersL (lo hi : Nat) (w : World) (o : Option Addr) (F : List GAccessUser) : Prop := ∀ i (h : i < F.length), ∃ a, o = some a ∧ lo ≤ a.block ∧ a.block < hi ∧ GAccessUserAt w (a.add (i * 3)) F[i]
theorem GAccessUsersL.same {lo hi : Nat} {w w' : World} {o : Option Addr} {F : List GAccessUser} (h : GAccessUsersL lo hi w o F) (hs : Same lo hi w w') : GAccessUsersL lo hi w' o F := by
  intro i hi
  obtain ⟨a, ho, h1, h2, h3⟩ := h i hi
  exact ⟨a, ho, h1, h2, h3.same hs (by rw [add_blockG]; exact h1) (by rw [add_blockG]; exact h2)⟩
theorem GAccessUsersL.mono {lo lo' hi hi' : Nat} {w : World} {o : Option Addr} {F : List GAccessUser} (h : GAccessUsersL lo hi w o F) (hl : lo' ≤ lo) (hh : hi ≤ hi') : GAccessUsersL lo' hi' w o F := by
  intro i hi
  obtain ⟨a, ho, h1, h2, h3⟩ := h i hi
  exact ⟨a, ho, Nat.le_trans hl h1, Nat.lt_of_lt_of_le h2 hh, h3⟩
theorem GAccessUsersL.below {lo hi B : Nat} {w w' : World} {o : Option Addr} {F : List GAccessUser} (h : GAccessUsersL lo hi w o F) (hb : Below B w w') (hB : hi ≤ B) : GAccessUsersL lo hi w' o F := h.same (Same.of_below hb hB)
set_option maxHeartbeats 1000000 in
theorem lawSzAccessUser (n : GAccessUser) (left _lo : Nat) (w : World) (hf : n.fits maxLen) (hl : left ≤ 1048576) :
    Calls Try.prog 9 #[GAccessUserV n, .int .i64 left] w fun e w' => ∃ r : Int, e = .returned (.int .i64 r) ∧ Hid (r = -1 ∨ ∃ m : Nat, r = m ∧ m ≤ left ∧ n.fits 1048576) ∧ Below w.heap.size w w' := by
  obtain ⟨f0_0, f1_0⟩ := hf
  unfold GAccessUserV
  unfold maxLen at f0_0
  unfold maxLen at f1_0
  obtain ⟨W, hW⟩ : ∃ W, W = w.alloc (.cells #[.string n.name, .string n.password, .bool n.readOnly] 31) := ⟨_, rfl⟩
  have hbW : Below w.heap.size w W := by rw [hW]; exact (Below.refl _ _).alloc (Nat.le_refl _) _
  have hWs : w.heap.size < W.heap.size := by rw [hW]; simp
  have HW := mkHid hW
  clear hW
  by_cases h0 : left < n.name.size
  · go_enter Try.func9, Try.ntmps9
    go_wp2
    go_ret
    first | rw [← HW.out] | skip
    exact ⟨-1, rfl, .inl rfl, hbW⟩
  · obtain ⟨l0, h0a⟩ : ∃ l : Nat, left - n.name.size = l := ⟨_, rfl⟩
    have h0b : (left : Int) - (n.name.size : Int) = (l0 : Int) := by omega
    have h0c : l0 ≤ left := by omega
    have g0 : Hid (n.name.size ≤ 1048576) := by show _ ≤ _; omega
    clear h0a
    by_cases h1 : l0 < n.password.size
    · go_enter Try.func9, Try.ntmps9
      go_wp2
      go_ret
      first | rw [← HW.out] | skip
      exact ⟨-1, rfl, .inl rfl, hbW⟩
    · obtain ⟨l1, h1a⟩ : ∃ l : Nat, l0 - n.password.size = l := ⟨_, rfl⟩
      have h1b : (l0 : Int) - (n.password.size : Int) = (l1 : Int) := by omega
      have h1c : l1 ≤ l0 := by omega
      have g1 : Hid (n.password.size ≤ 1048576) := by show _ ≤ _; omega
      clear h1a
      go_enter Try.func9, Try.ntmps9
      go_wp2
      go_ret
      first | rw [← HW.out] | skip
      exact ⟨_, rfl, .inr ⟨l1, rfl, by omega, g0.out, g1.out⟩, hbW⟩
set_option maxHeartbeats 1000000 in
theorem lawSzSAccessUser (o : Option Addr) (F : List GAccessUser) (cap left lo : Nat) (w : World) (hF : GAccessUsersL lo w.heap.size w o F) (hlen : F.length ≤ maxLen) (hsz : ∀ f ∈ F, f.fits maxLen) (hl : left ≤ 1048576) :
    Calls Try.prog 4 #[.slice o F.length cap, .int .i64 left] w fun e w' => ∃ r : Int, e = .returned (.int .i64 r) ∧ Hid (r = -1 ∨ ∃ m : Nat, r = m ∧ m ≤ left ∧ F.length ≤ 1048576 ∧ ∀ f ∈ F, f.fits 1048576) ∧ Below w.heap.size w w' := by
  unfold maxLen at hlen
  by_cases hn : left < F.length
  · clear hF hsz
    go_enter Try.func4, Try.ntmps4
    go_wp2
    go_ret
    exact ⟨-1, rfl, Or.inl rfl, Below.refl _ _⟩
  · obtain ⟨l0, hl0⟩ : ∃ l : Nat, left - F.length = l := ⟨_, rfl⟩
    have hl1 : (left : Int) - (F.length : Int) = (l0 : Int) := by omega
    have hl2 : l0 ≤ left := by omega
    have hl3 : F.length ≤ 1048576 := by omega
    have HF := mkHid hF
    have Hsz := mkHid hsz
    clear hF hsz hl0
    go_enter Try.func4, Try.ntmps4
    go_wp2
    clear hl1
    go_loopw [1, 5] (fun l i wr => ∃ (k m : Nat), k ≤ F.length ∧ i = .int .i64 k ∧ m ≤ left ∧ l = .int .i64 m ∧ Hid (∀ j (h : j < F.length), j < k → F[j].fits 1048576) ∧ Below w.heap.size w wr) (fun _ i _ => F.length - (Lib.intOf i).toNat)
    case atStart => exact ⟨0, l0, Nat.zero_le _, rfl, hl2, rfl, fun j h h0 => absurd h0 (Nat.not_lt_zero _), Below.refl _ _⟩
    case round =>
      obtain ⟨k, m, hk, rfl, hm, rfl, hall, hb⟩ := hrel
      by_cases hlt : k < F.length
      · obtain ⟨a, rfl, ha1, ha2, hA⟩ := (HF.out.below hb (Nat.le_refl _)) k hlt
        have hS := mkHid (lawSzAccessUser F[k] m lo wr (Hsz.out _ (List.getElem_mem hlt)) (by omega))
        have c0 := hA.c0
        have c1 := hA.c1
        have c2 := hA.c2
        clear hA
        unfold GAccessUserV at hS
        generalize hf : F[k] = f at *
        have Hf := mkHid hf
        clear hf
        go_wp2_with fail
        refine hS.out.mono ?_
        rintro e w1 ⟨r1, rfl, hr1, hb1⟩
        have hb2 := mkHid (hb.trans (hb1.mono hb.size))
        clear hS c0 c1 c2 hb1 hb
        rcases hr1.out with rfl | ⟨m1, rfl, hm1, hft⟩
        · clear hr1
          go_wp2
          go_ret
          exact ⟨-1, rfl, Or.inl rfl, hb2.out⟩
        · replace hft := mkHid hft
          clear hr1
          go_wp2
          go_roundw
          case rel =>
            refine ⟨k + 1, m1, by omega, by go_num, by omega, rfl, ?_, hb2.out⟩
            intro j h hj
            by_cases hjk : j < k
            · exact hall.out j h hjk
            · have : j = k := by omega
              subst this
              rw [Hf.out]; exact hft.out
          case measure => simp [Lib.intOf]; omega
      · have Hall : Hid (∀ f ∈ F, f.fits 1048576) := by
          intro t ht
          obtain ⟨j, hj, rfl⟩ := List.getElem_of_mem ht
          exact hall.out j hj (by omega)
        go_wp2
        go_ret
        exact ⟨_, rfl, Or.inr ⟨m, rfl, hm, hl3, Hall.out⟩, hb⟩
set_option maxHeartbeats 4000000 in
set_option maxRecDepth 20000 in
theorem lawToXAccessUser (n : GAccessUser) (lo : Nat) (w : World) :
    Calls Try.prog 11 #[GAccessUserV n] w fun e w' => e = .returned (GAccessUserV n) ∧ Below w.heap.size w w' ∧ Hid (Soft w.heap.size w') := by
  have _hlo := lo
  unfold GAccessUserV
  go_enter Try.func11, Try.ntmps11
  go_wp2
  refine bodyPost_ret (v := .agg #[.string n.name, .string n.password, .bool n.readOnly]) (by simp [results, Try.results11, go_sem]) rfl ⟨rfl, ?_⟩
  exact ⟨(((Below.refl _ _).alloc (Nat.le_refl _) _).alloc (by simp) _).alloc (by simp; omega) _, (((Soft.refl _).alloc _ _).alloc _ _).alloc _ _⟩
theorem lawToAccessUser (n : GAccessUser) (lo : Nat) (w : World) :
    Calls Try.prog 11 #[GAccessUserV n] w fun e w' => e = .returned (GAccessUserV n) ∧ Below w.heap.size w w' :=
  (lawToXAccessUser n lo w).mono fun _ _ ⟨h1, h2, _⟩ => ⟨h1, h2⟩
structure GAccessUserL (f : Nat → Value) (j : Nat) (n : GAccessUser) : Prop where
  c0 : f (j * 3) = .string n.name
  c1 : f (j * 3 + 1) = .string n.password
  c2 : f (j * 3 + 2) = .bool n.readOnly
def GAccessUserSet (w : World) (g k : Nat) (n : GAccessUser) : World := (((w.setCell ⟨g, k * 3, none⟩ (.string n.name)).setCell ⟨g, k * 3 + 1, none⟩ (.string n.password)).setCell ⟨g, k * 3 + 2, none⟩ (.bool n.readOnly))
theorem GAccessUserRow {w : World} {g t N : Nat} {f : Nat → Value} (h : w.rowIs g t N f) (k : Nat) (n : GAccessUser) :
    ∃ f', (GAccessUserSet w g k n).rowIs g t N f' ∧ GAccessUserL f' k n ∧ ∀ (j : Nat) (m : GAccessUser), j ≠ k → GAccessUserL f j m → GAccessUserL f' j m := by
  refine ⟨_, (((h.set _ _).set _ _).set _ _), ?_, ?_⟩
  · constructor <;> simp
  · intro j m hj hl
    obtain ⟨c0, c1, c2⟩ := hl
    constructor <;> rw [if_neg (by omega), if_neg (by omega), if_neg (by omega)] <;> assumption
theorem GAccessUserGr (w : World) (g k : Nat) (n : GAccessUser) : w.grownBy (GAccessUserSet w g k n) (some g) := grG_trans (grG_trans (grG_set _ _ _ _) (grG_set _ _ _ _)) (grG_set _ _ _ _)
theorem Try.infoGAccessUser : (Try.prog.info? 33).map (fun i => (i.zero, i.size, i.bytes)) = some (some (.agg #[.string ⟨#[]⟩, .string ⟨#[]⟩, .bool false]), 3, 40) := by kernel_rfl
set_option maxHeartbeats 4000000 in
set_option maxRecDepth 20000 in
theorem lawToSXAccessUser (o : Option Addr) (F : List GAccessUser) (cap lo : Nat) (w : World) (hF : GAccessUsersL lo w.heap.size w o F) (hlen : F.length ≤ 1048576) (hfit : ∀ f ∈ F, f.fits 1048576) :
    Calls Try.prog 6 #[.slice o F.length cap] w fun e w' => e = .returned (.slice (some ⟨w.heap.size, 0, none⟩) F.length F.length) ∧ Hid (GAccessUsersL w.heap.size w'.heap.size w' (some ⟨w.heap.size, 0, none⟩) F) ∧ Below w.heap.size w w' ∧ Hid (Soft w.heap.size w') := by
  obtain ⟨i0, hi, hy0, hy1, hy2⟩ := info_parts Try.infoGAccessUser
  have hmk := run_make (P := Try.prog) w 25 33 i0 _ Try.underlying25 hi hy0 .i64 .i64 F.length F.length (by omega) (Int.le_refl _) (by rw [hy2]; omega) (by omega)
  simp only [Int.toNat_natCast, hy1] at hmk
  have HF := mkHid hF
  have Hfit := mkHid hfit
  clear hF hfit
  obtain ⟨c0, hc0⟩ : ∃ c0, c0 = madeCells (Value.cells (.agg #[.string ⟨#[]⟩, .string ⟨#[]⟩, .bool false])) (F.length * 3) := ⟨_, rfl⟩
  have hcs : c0.size = F.length * 3 := by rw [hc0]; exact size_madeCells _ _
  rw [← hc0] at hmk
  have Hrow0 : Hid (∃ f, (w.alloc (.cells c0 33)).rowIs w.heap.size 33 (F.length * 3) f) := by
    refine ⟨fun j => c0[j]!, ?_⟩
    have := World.rowIs_alloc w c0 33 (fun j => c0[j]!) (fun i hi => by simp [hi])
    rw [hcs] at this
    exact this
  clear hc0 hcs
  go_enter Try.func6, Try.ntmps6
  go_wp2
  clear hmk
  generalize hG : w.heap.size = G at *
  go_loopw [4] (fun i wr => ∃ (k : Nat) (f : Nat → Value), k ≤ F.length ∧ i = .int .i64 k ∧ wr.rowIs G 33 (F.length * 3) f ∧ Hid (∀ j (h : j < F.length), j < k → GAccessUserL f j F[j]) ∧ Below G w wr ∧ Hid (Soft G wr)) (fun i _ => F.length - (Lib.intOf i).toNat)
  case atStart =>
    obtain ⟨f, hx⟩ := Hrow0.out
    exact ⟨0, f, Nat.zero_le _, rfl, hx, fun j h h0 => absurd h0 (Nat.not_lt_zero _), (Below.refl _ _).alloc (by omega) _, by rw [← hG]; exact (Soft.refl _).alloc _ _⟩
  case round =>
    clear Hrow0
    obtain ⟨k, f, hk, rfl, hrow, hall, hb, hSf⟩ := hrel
    by_cases hlt : k < F.length
    · obtain ⟨a, rfl, ha1, ha2, hA⟩ := (HF.out.below hb (Nat.le_refl _)) k hlt
      have hGl := hrow.lt
      have hT := mkHid (lawToXAccessUser F[k] lo wr)
      have c0 := hA.c0
      have c1 := hA.c1
      have c2 := hA.c2
      clear hA
      generalize hf : F[k] = n at *
      have Hf := mkHid hf
      clear hf
      unfold GAccessUserV at hT
      go_wp2_with fail
      refine hT.out.mono ?_
      rintro e w1 ⟨rfl, hb1, hsf1⟩
      have hrow1 : w1.rowIs G 33 (F.length * 3) f := hrow.of_block (hb1.block G hGl)
      have hgr := GAccessUserGr w1 G k n
      obtain ⟨f', hrow2, hL, hLo⟩ := GAccessUserRow hrow1 k n
      have hb1s := hb1.size
      have hS2 : Hid (Soft G (GAccessUserSet w1 G k n)) := ((((hSf.out.call hb1 hsf1.out).set _ _ _).set _ _ _).set _ _ _)
      have hb2 : Below G w (GAccessUserSet w1 G k n) := (hb.trans (hb1.mono (by omega))).grown hgr (by omega) (fun j hj => by cases hj; exact Nat.le_refl _)
      have Hall : Hid (∀ j (h : j < F.length), j < k + 1 → GAccessUserL f' j F[j]) := by
        intro j h hj
        by_cases hjk : j = k
        · subst hjk
          rw [Hf.out]
          exact hL
        · exact hLo j _ hjk (hall.out j h (by omega))
      have hd := fun (j : Nat) (hj : j < 3) => hrow1.cell (i := k * 3 + j) (by omega)
      have d0 := hd 0 (by omega)
      have d1 := hd 1 (by omega)
      have d2 := hd 2 (by omega)
      have z0 := hrow1.frozen (k * 3)
      have z1 := hrow1.frozen (k * 3 + 1)
      have z2 := hrow1.frozen (k * 3 + 2)
      rw [Nat.add_zero] at d0
      have hadd := add_off G (k * 3)
      replace hrow2 := mkHid hrow2
      replace hb2 := mkHid hb2
      clear hd hrow hrow1 hL hLo hgr hall hb hb1 hb1s hT c0 c1 c2
      unfold GAccessUserSet at hrow2 hb2 hS2
      go_wp2
      go_roundw
      case rel => exact ⟨k + 1, f', by omega, by go_num, hrow2.out, Hall.out, hb2.out, hS2⟩
      case measure => simp [Lib.intOf]; omega
    · go_wp2
      go_ret
      refine ⟨by rw [hG]; rfl, ?_, by rw [hG]; exact hb, by rw [hG]; exact hSf⟩
      intro i hi
      have hl := hall.out i hi (by omega)
      refine ⟨⟨w.heap.size, 0, none⟩, rfl, Nat.le_refl _, by rw [hG]; exact hrow.lt, ?_⟩
      rw [add_off, hG]
      have hd := fun (j : Nat) (hj : j < 3) => hrow.cell (i := i * 3 + j) (by omega)
      refine ⟨?_, ?_, ?_⟩
      · have := hd 0 (by omega); rw [Nat.add_zero, hl.c0] at this; exact this
      · have := hd 1 (by omega); rw [hl.c1] at this; exact this
      · have := hd 2 (by omega); rw [hl.c2] at this; exact this
theorem lawToSAccessUser (o : Option Addr) (F : List GAccessUser) (cap lo : Nat) (w : World) (hF : GAccessUsersL lo w.heap.size w o F) (hlen : F.length ≤ 1048576) (hfit : ∀ f ∈ F, f.fits 1048576) :
    Calls Try.prog 6 #[.slice o F.length cap] w fun e w' => e = .returned (.slice (some ⟨w.heap.size, 0, none⟩) F.length F.length) ∧ Hid (GAccessUsersL w.heap.size w'.heap.size w' (some ⟨w.heap.size, 0, none⟩) F) ∧ Below w.heap.size w w' :=
  (lawToSXAccessUser o F cap lo w hF hlen hfit).mono fun _ _ ⟨h1, h2, h3, _⟩ => ⟨h1, h2, h3⟩
set_option maxHeartbeats 1000000 in
theorem lawEqAccessUser (n : GAccessUser) (lo lo' : Nat) (w : World) :
    Calls Try.prog 15 #[GAccessUserV n, GAccessUserV n] w fun e w' => e = .returned (.bool true) ∧ Below w.heap.size w w' := by
  have _hlo := lo + lo'
  unfold GAccessUserV
  go_enter Try.func15, Try.ntmps15
  go_wp2
  go_ret
  exact ⟨rfl, ((Below.refl _ _).alloc (Nat.le_refl _) _).alloc (by simp) _⟩
set_option maxHeartbeats 2000000 in
set_option maxRecDepth 10000 in
theorem lawEqSAccessUser (a b : Option Addr) (F : List GAccessUser) (cap cap' lo lo' : Nat) (w : World) (hF : GAccessUsersL lo w.heap.size w a F) (hG : GAccessUsersL lo' w.heap.size w b F) (hlen : F.length ≤ 1048576) (hfit : ∀ f ∈ F, f.fits 1048576) :
    Calls Try.prog 8 #[.slice a F.length cap, .slice b F.length cap'] w fun e w' => e = .returned (.bool true) ∧ Below w.heap.size w w' := by
  have HF := mkHid hF
  have HG := mkHid hG
  have Hfit := mkHid hfit
  clear hF hG hfit
  go_enter Try.func8, Try.ntmps8
  go_wp2
  go_loopw [5] (fun i wr => ∃ k : Nat, k ≤ F.length ∧ i = .int .i64 k ∧ Below w.heap.size w wr) (fun i _ => F.length - (Lib.intOf i).toNat)
  case atStart => exact ⟨0, Nat.zero_le _, rfl, Below.refl _ _⟩
  case round =>
    obtain ⟨k, hk, rfl, hb0⟩ := hrel
    by_cases hlt : k < F.length
    · obtain ⟨a', rfl, ha, ha', hA⟩ := (HF.out.below hb0 (Nat.le_refl _)) k hlt
      obtain ⟨b', rfl, hb, hb', hB⟩ := (HG.out.below hb0 (Nat.le_refl _)) k hlt
      have hE := mkHid fun (w' : World) (_ : Below wr.heap.size wr w') => lawEqAccessUser F[k] lo lo' w'
      have c0 := hA.c0
      have c1 := hA.c1
      have c2 := hA.c2
      have d0 := hB.c0
      have d1 := hB.c1
      have d2 := hB.c2
      clear hA hB
      generalize F[k] = n at *
      have cE : Hid (∀ d os, Calls Try.prog 15 #[GAccessUserV n, GAccessUserV n] (Go.Sort.grow (redrawn wr d) os) fun e w'' => e = .returned (.bool true) ∧ ∃ p : Regrown, w'' = Go.Sort.grow (redrawn wr p.d) p.os) := fun d os => Calls.regrown_of (hE.out _ (below_regrown wr d os))
      unfold GAccessUserV at cE
      go_wp2
      have k0 := cell_regrown c0
      have l0 := cell_regrown d0
      have k1 := cell_regrown c1
      have l1 := cell_regrown d1
      have k2 := cell_regrown c2
      have l2 := cell_regrown d2
      clear hE c0 c1 c2 d0 d1 d2
      refine wp_region_quiet_below (by kernel_rfl) (by kernel_rfl) ?_
      repeat (go_big_quiet_step (exact cE.out _ _))
      refine wpQuiet_nil ?_
      intro _ hw'
      obtain ⟨⟨dq, osq⟩, hw''⟩ := hw'
      subst hw''
      have hbq := mkHid (hb0.trans ((below_regrown wr dq osq).mono hb0.size))
      generalize Go.Sort.grow (redrawn wr dq) osq = wq at *
      clear k0 k1 k2 l0 l1 l2 cE hb0
      go_wp2
      go_roundw
      case rel => exact ⟨k + 1, by omega, by go_num, hbq.out⟩
      case measure => simp [Lib.intOf]; omega
    · go_wp2
      go_ret
      exact ⟨rfl, hb0⟩
end Go.Proofs.Ytomncfpnpbncoaa
