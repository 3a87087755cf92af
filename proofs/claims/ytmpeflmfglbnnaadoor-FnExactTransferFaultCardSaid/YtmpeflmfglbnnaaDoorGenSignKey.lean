
/- SignKey: as the law has it and as the program has it; handed in, made anew, held against one another. (By tools/gen/structs.py.) -/
import Derived.Test.YtmpeflmfglbnnaaDoorGenBase
namespace Go.Proofs.YtmpeflmfglbnnaaDoor
open Go.RowKit Go.Lib Go.Maps
structure GSignKey where
  domain : ByteArray
  selector : ByteArray
  a : Int
  b : Int
def GSignKeyV (n : GSignKey) : Value := .agg #[.string n.domain, .string n.selector, .int .i64 n.a, .int .i64 n.b]
def GSignKey.fits (n : GSignKey) (m : Nat) : Prop := n.domain.size ≤ m ∧ n.selector.size ≤ m
structure GSignKeyAt (w : World) (A : Addr) (n : GSignKey) : Prop where
  c0 : w.cell? A = some (.string n.domain)
  c1 : w.cell? ⟨A.block, A.off + 1, none⟩ = some (.string n.selector)
  c2 : w.cell? ⟨A.block, A.off + 2, none⟩ = some (.int .i64 n.a)
  c3 : w.cell? ⟨A.block, A.off + 3, none⟩ = some (.int .i64 n.b)
theorem GSignKeyAt.same {lo hi : Nat} {w w' : World} {A : Addr} {n : GSignKey} (h : GSignKeyAt w A n) (hs : Same lo hi w w') (h1 : lo ≤ A.block) (h2 : A.block < hi) : GSignKeyAt w' A n :=
  ⟨(hs.cell h1 h2).trans h.c0, (hs.cell (p := ⟨A.block, A.off + 1, none⟩) h1 h2).trans h.c1, (hs.cell (p := ⟨A.block, A.off + 2, none⟩) h1 h2).trans h.c2, (hs.cell (p := ⟨A.block, A.off + 3, none⟩) h1 h2).trans h.c3⟩
def GSignKeysL (lo hi : Nat) (w : World) (o : Option Addr) (F : List GSignKey) : Prop := ∀ i (h : i < F.length), ∃ a, o = some a ∧ lo ≤ a.block ∧ a.block < hi ∧ GSignKeyAt w (a.add (i * 4)) F[i]
theorem GSignKeysL.same {lo hi : Nat} {w w' : World} {o : Option Addr} {F : List GSignKey} (h : GSignKeysL lo hi w o F) (hs : Same lo hi w w') : GSignKeysL lo hi w' o F := by
  intro i hi
  obtain ⟨a, ho, h1, h2, h3⟩ := h i hi
  exact ⟨a, ho, h1, h2, h3.same hs (by rw [add_blockG]; exact h1) (by rw [add_blockG]; exact h2)⟩
theorem GSignKeysL.mono {lo lo' hi hi' : Nat} {w : World} {o : Option Addr} {F : List GSignKey} (h : GSignKeysL lo hi w o F) (hl : lo' ≤ lo) (hh : hi ≤ hi') : GSignKeysL lo' hi' w o F := by
  intro i hi
  obtain ⟨a, ho, h1, h2, h3⟩ := h i hi
  exact ⟨a, ho, Nat.le_trans hl h1, Nat.lt_of_lt_of_le h2 hh, h3⟩
theorem GSignKeysL.below {lo hi B : Nat} {w w' : World} {o : Option Addr} {F : List GSignKey} (h : GSignKeysL lo hi w o F) (hb : Below B w w') (hB : hi ≤ B) : GSignKeysL lo hi w' o F := h.same (Same.of_below hb hB)
set_option maxHeartbeats 1000000 in
theorem lawSzSignKey (n : GSignKey) (left _lo : Nat) (w : World) (hf : n.fits maxLen) (hl : left ≤ 1048576) :
    Calls Tryd.prog 22 #[GSignKeyV n, .int .i64 left] w fun e w' => ∃ r : Int, e = .returned (.int .i64 r) ∧ Hid (r = -1 ∨ ∃ m : Nat, r = m ∧ m ≤ left ∧ n.fits 1048576) ∧ Below w.heap.size w w' := by
  obtain ⟨f0_0, f1_0⟩ := hf
  unfold GSignKeyV
  unfold maxLen at f0_0
  unfold maxLen at f1_0
  obtain ⟨W, hW⟩ : ∃ W, W = w.alloc (.cells #[.string n.domain, .string n.selector, .int .i64 n.a, .int .i64 n.b] 45) := ⟨_, rfl⟩
  have hbW : Below w.heap.size w W := by rw [hW]; exact (Below.refl _ _).alloc (Nat.le_refl _) _
  have hWs : w.heap.size < W.heap.size := by rw [hW]; simp
  have HW := mkHid hW
  clear hW
  by_cases h0 : left < n.domain.size
  · go_enter Tryd.func22, Tryd.ntmps22
    go_wp2
    go_ret
    first | rw [← HW.out] | skip
    exact ⟨-1, rfl, .inl rfl, hbW⟩
  · obtain ⟨l0, h0a⟩ : ∃ l : Nat, left - n.domain.size = l := ⟨_, rfl⟩
    have h0b : (left : Int) - (n.domain.size : Int) = (l0 : Int) := by omega
    have h0c : l0 ≤ left := by omega
    have g0 : Hid (n.domain.size ≤ 1048576) := by show _ ≤ _; omega
    clear h0a
    by_cases h1 : l0 < n.selector.size
    · go_enter Tryd.func22, Tryd.ntmps22
      go_wp2
      go_ret
      first | rw [← HW.out] | skip
      exact ⟨-1, rfl, .inl rfl, hbW⟩
    · obtain ⟨l1, h1a⟩ : ∃ l : Nat, l0 - n.selector.size = l := ⟨_, rfl⟩
      have h1b : (l0 : Int) - (n.selector.size : Int) = (l1 : Int) := by omega
      have h1c : l1 ≤ l0 := by omega
      have g1 : Hid (n.selector.size ≤ 1048576) := by show _ ≤ _; omega
      clear h1a
      go_enter Tryd.func22, Tryd.ntmps22
      go_wp2
      go_ret
      first | rw [← HW.out] | skip
      exact ⟨_, rfl, .inr ⟨l1, rfl, by omega, g0.out, g1.out⟩, hbW⟩
set_option maxHeartbeats 1000000 in
theorem lawSzSSignKey (o : Option Addr) (F : List GSignKey) (cap left lo : Nat) (w : World) (hF : GSignKeysL lo w.heap.size w o F) (hlen : F.length ≤ maxLen) (hsz : ∀ f ∈ F, f.fits maxLen) (hl : left ≤ 1048576) :
    Calls Tryd.prog 9 #[.slice o F.length cap, .int .i64 left] w fun e w' => ∃ r : Int, e = .returned (.int .i64 r) ∧ Hid (r = -1 ∨ ∃ m : Nat, r = m ∧ m ≤ left ∧ F.length ≤ 1048576 ∧ ∀ f ∈ F, f.fits 1048576) ∧ Below w.heap.size w w' := by
  unfold maxLen at hlen
  by_cases hn : left < F.length
  · clear hF hsz
    go_enter Tryd.func9, Tryd.ntmps9
    go_wp2
    go_ret
    exact ⟨-1, rfl, Or.inl rfl, Below.refl _ _⟩
  · obtain ⟨l0, hl0⟩ : ∃ l : Nat, left - F.length = l := ⟨_, rfl⟩
    have hl1 : (left : Int) - (F.length : Int) = (l0 : Int) := by omega
    have hl2 : l0 ≤ left := by omega
    have hl3 : F.length ≤ 1048576 := by omega
    have HF := mkHid hF
    have Hsz := mkHid hsz
    clear hF hsz hl0
    go_enter Tryd.func9, Tryd.ntmps9
    go_wp2
    clear hl1
    go_loopw [1, 5] (fun l i wr => ∃ (k m : Nat), k ≤ F.length ∧ i = .int .i64 k ∧ m ≤ left ∧ l = .int .i64 m ∧ Hid (∀ j (h : j < F.length), j < k → F[j].fits 1048576) ∧ Below w.heap.size w wr) (fun _ i _ => F.length - (Lib.intOf i).toNat)
    case atStart => exact ⟨0, l0, Nat.zero_le _, rfl, hl2, rfl, fun j h h0 => absurd h0 (Nat.not_lt_zero _), Below.refl _ _⟩
    case round =>
      obtain ⟨k, m, hk, rfl, hm, rfl, hall, hb⟩ := hrel
      by_cases hlt : k < F.length
      · obtain ⟨a, rfl, ha1, ha2, hA⟩ := (HF.out.below hb (Nat.le_refl _)) k hlt
        have hS := mkHid (lawSzSignKey F[k] m lo wr (Hsz.out _ (List.getElem_mem hlt)) (by omega))
        have c0 := hA.c0
        have c1 := hA.c1
        have c2 := hA.c2
        have c3 := hA.c3
        clear hA
        unfold GSignKeyV at hS
        generalize hf : F[k] = f at *
        have Hf := mkHid hf
        clear hf
        go_wp2_with fail
        refine hS.out.mono ?_
        rintro e w1 ⟨r1, rfl, hr1, hb1⟩
        have hb2 := mkHid (hb.trans (hb1.mono hb.size))
        clear hS c0 c1 c2 c3 hb1 hb
        rcases hr1.out with rfl | ⟨m1, rfl, hm1, hft⟩
        · clear hr1
          go_wp2
          go_ret
          exact ⟨-1, rfl, Or.inl rfl, hb2.out⟩
        · replace hft := mkHid hft
          clear hr1
          go_wp2
          go_roundw
          case rel =>
            refine ⟨k + 1, m1, by omega, by go_num, by omega, rfl, ?_, hb2.out⟩
            intro j h hj
            by_cases hjk : j < k
            · exact hall.out j h hjk
            · have : j = k := by omega
              subst this
              rw [Hf.out]; exact hft.out
          case measure => simp [Lib.intOf]; omega
      · have Hall : Hid (∀ f ∈ F, f.fits 1048576) := by
          intro t ht
          obtain ⟨j, hj, rfl⟩ := List.getElem_of_mem ht
          exact hall.out j hj (by omega)
        go_wp2
        go_ret
        exact ⟨_, rfl, Or.inr ⟨m, rfl, hm, hl3, Hall.out⟩, hb⟩
set_option maxHeartbeats 4000000 in
set_option maxRecDepth 20000 in
theorem lawToXSignKey (n : GSignKey) (lo : Nat) (w : World) :
    Calls Tryd.prog 26 #[GSignKeyV n] w fun e w' => e = .returned (GSignKeyV n) ∧ Below w.heap.size w w' ∧ Hid (Soft w.heap.size w') := by
  have _hlo := lo
  unfold GSignKeyV
  go_enter Tryd.func26, Tryd.ntmps26
  go_wp2
  refine bodyPost_ret (v := .agg #[.string n.domain, .string n.selector, .int .i64 n.a, .int .i64 n.b]) (by simp [results, Tryd.results26, go_sem]) rfl ⟨rfl, ?_⟩
  exact ⟨(((Below.refl _ _).alloc (Nat.le_refl _) _).alloc (by simp) _).alloc (by simp; omega) _, (((Soft.refl _).alloc _ _).alloc _ _).alloc _ _⟩
theorem lawToSignKey (n : GSignKey) (lo : Nat) (w : World) :
    Calls Tryd.prog 26 #[GSignKeyV n] w fun e w' => e = .returned (GSignKeyV n) ∧ Below w.heap.size w w' :=
  (lawToXSignKey n lo w).mono fun _ _ ⟨h1, h2, _⟩ => ⟨h1, h2⟩
structure GSignKeyL (f : Nat → Value) (j : Nat) (n : GSignKey) : Prop where
  c0 : f (j * 4) = .string n.domain
  c1 : f (j * 4 + 1) = .string n.selector
  c2 : f (j * 4 + 2) = .int .i64 n.a
  c3 : f (j * 4 + 3) = .int .i64 n.b
def GSignKeySet (w : World) (g k : Nat) (n : GSignKey) : World := ((((w.setCell ⟨g, k * 4, none⟩ (.string n.domain)).setCell ⟨g, k * 4 + 1, none⟩ (.string n.selector)).setCell ⟨g, k * 4 + 2, none⟩ (.int .i64 n.a)).setCell ⟨g, k * 4 + 3, none⟩ (.int .i64 n.b))
theorem GSignKeyRow {w : World} {g t N : Nat} {f : Nat → Value} (h : w.rowIs g t N f) (k : Nat) (n : GSignKey) :
    ∃ f', (GSignKeySet w g k n).rowIs g t N f' ∧ GSignKeyL f' k n ∧ ∀ (j : Nat) (m : GSignKey), j ≠ k → GSignKeyL f j m → GSignKeyL f' j m := by
  refine ⟨_, ((((h.set _ _).set _ _).set _ _).set _ _), ?_, ?_⟩
  · constructor <;> simp
  · intro j m hj hl
    obtain ⟨c0, c1, c2, c3⟩ := hl
    constructor <;> rw [if_neg (by omega), if_neg (by omega), if_neg (by omega), if_neg (by omega)] <;> assumption
theorem GSignKeyGr (w : World) (g k : Nat) (n : GSignKey) : w.grownBy (GSignKeySet w g k n) (some g) := grG_trans (grG_trans (grG_trans (grG_set _ _ _ _) (grG_set _ _ _ _)) (grG_set _ _ _ _)) (grG_set _ _ _ _)
theorem Tryd.infoGSignKey : (Tryd.prog.info? 37).map (fun i => (i.zero, i.size, i.bytes)) = some (some (.agg #[.string ⟨#[]⟩, .string ⟨#[]⟩, .int .i64 0, .int .i64 0]), 4, 48) := by kernel_rfl
set_option maxHeartbeats 4000000 in
set_option maxRecDepth 20000 in
theorem lawToSXSignKey (o : Option Addr) (F : List GSignKey) (cap lo : Nat) (w : World) (hF : GSignKeysL lo w.heap.size w o F) (hlen : F.length ≤ 1048576) (hfit : ∀ f ∈ F, f.fits 1048576) :
    Calls Tryd.prog 15 #[.slice o F.length cap] w fun e w' => e = .returned (.slice (some ⟨w.heap.size, 0, none⟩) F.length F.length) ∧ Hid (GSignKeysL w.heap.size w'.heap.size w' (some ⟨w.heap.size, 0, none⟩) F) ∧ Below w.heap.size w w' ∧ Hid (Soft w.heap.size w') := by
  obtain ⟨i0, hi, hy0, hy1, hy2⟩ := info_parts Tryd.infoGSignKey
  have hmk := run_make (P := Tryd.prog) w 27 37 i0 _ Tryd.underlying27 hi hy0 .i64 .i64 F.length F.length (by omega) (Int.le_refl _) (by rw [hy2]; omega) (by omega)
  simp only [Int.toNat_natCast, hy1] at hmk
  have HF := mkHid hF
  have Hfit := mkHid hfit
  clear hF hfit
  obtain ⟨c0, hc0⟩ : ∃ c0, c0 = madeCells (Value.cells (.agg #[.string ⟨#[]⟩, .string ⟨#[]⟩, .int .i64 0, .int .i64 0])) (F.length * 4) := ⟨_, rfl⟩
  have hcs : c0.size = F.length * 4 := by rw [hc0]; exact size_madeCells _ _
  rw [← hc0] at hmk
  have Hrow0 : Hid (∃ f, (w.alloc (.cells c0 37)).rowIs w.heap.size 37 (F.length * 4) f) := by
    refine ⟨fun j => c0[j]!, ?_⟩
    have := World.rowIs_alloc w c0 37 (fun j => c0[j]!) (fun i hi => by simp [hi])
    rw [hcs] at this
    exact this
  clear hc0 hcs
  go_enter Tryd.func15, Tryd.ntmps15
  go_wp2
  clear hmk
  generalize hG : w.heap.size = G at *
  go_loopw [4] (fun i wr => ∃ (k : Nat) (f : Nat → Value), k ≤ F.length ∧ i = .int .i64 k ∧ wr.rowIs G 37 (F.length * 4) f ∧ Hid (∀ j (h : j < F.length), j < k → GSignKeyL f j F[j]) ∧ Below G w wr ∧ Hid (Soft G wr)) (fun i _ => F.length - (Lib.intOf i).toNat)
  case atStart =>
    obtain ⟨f, hx⟩ := Hrow0.out
    exact ⟨0, f, Nat.zero_le _, rfl, hx, fun j h h0 => absurd h0 (Nat.not_lt_zero _), (Below.refl _ _).alloc (by omega) _, by rw [← hG]; exact (Soft.refl _).alloc _ _⟩
  case round =>
    clear Hrow0
    obtain ⟨k, f, hk, rfl, hrow, hall, hb, hSf⟩ := hrel
    by_cases hlt : k < F.length
    · obtain ⟨a, rfl, ha1, ha2, hA⟩ := (HF.out.below hb (Nat.le_refl _)) k hlt
      have hGl := hrow.lt
      have hT := mkHid (lawToXSignKey F[k] lo wr)
      have c0 := hA.c0
      have c1 := hA.c1
      have c2 := hA.c2
      have c3 := hA.c3
      clear hA
      generalize hf : F[k] = n at *
      have Hf := mkHid hf
      clear hf
      unfold GSignKeyV at hT
      go_wp2_with fail
      refine hT.out.mono ?_
      rintro e w1 ⟨rfl, hb1, hsf1⟩
      have hrow1 : w1.rowIs G 37 (F.length * 4) f := hrow.of_block (hb1.block G hGl)
      have hgr := GSignKeyGr w1 G k n
      obtain ⟨f', hrow2, hL, hLo⟩ := GSignKeyRow hrow1 k n
      have hb1s := hb1.size
      have hS2 : Hid (Soft G (GSignKeySet w1 G k n)) := (((((hSf.out.call hb1 hsf1.out).set _ _ _).set _ _ _).set _ _ _).set _ _ _)
      have hb2 : Below G w (GSignKeySet w1 G k n) := (hb.trans (hb1.mono (by omega))).grown hgr (by omega) (fun j hj => by cases hj; exact Nat.le_refl _)
      have Hall : Hid (∀ j (h : j < F.length), j < k + 1 → GSignKeyL f' j F[j]) := by
        intro j h hj
        by_cases hjk : j = k
        · subst hjk
          rw [Hf.out]
          exact hL
        · exact hLo j _ hjk (hall.out j h (by omega))
      have hd := fun (j : Nat) (hj : j < 4) => hrow1.cell (i := k * 4 + j) (by omega)
      have d0 := hd 0 (by omega)
      have d1 := hd 1 (by omega)
      have d2 := hd 2 (by omega)
      have d3 := hd 3 (by omega)
      have z0 := hrow1.frozen (k * 4)
      have z1 := hrow1.frozen (k * 4 + 1)
      have z2 := hrow1.frozen (k * 4 + 2)
      have z3 := hrow1.frozen (k * 4 + 3)
      rw [Nat.add_zero] at d0
      have hadd := add_off G (k * 4)
      replace hrow2 := mkHid hrow2
      replace hb2 := mkHid hb2
      clear hd hrow hrow1 hL hLo hgr hall hb hb1 hb1s hT c0 c1 c2 c3
      unfold GSignKeySet at hrow2 hb2 hS2
      go_wp2
      go_roundw
      case rel => exact ⟨k + 1, f', by omega, by go_num, hrow2.out, Hall.out, hb2.out, hS2⟩
      case measure => simp [Lib.intOf]; omega
    · go_wp2
      go_ret
      refine ⟨by rw [hG]; rfl, ?_, by rw [hG]; exact hb, by rw [hG]; exact hSf⟩
      intro i hi
      have hl := hall.out i hi (by omega)
      refine ⟨⟨w.heap.size, 0, none⟩, rfl, Nat.le_refl _, by rw [hG]; exact hrow.lt, ?_⟩
      rw [add_off, hG]
      have hd := fun (j : Nat) (hj : j < 4) => hrow.cell (i := i * 4 + j) (by omega)
      refine ⟨?_, ?_, ?_, ?_⟩
      · have := hd 0 (by omega); rw [Nat.add_zero, hl.c0] at this; exact this
      · have := hd 1 (by omega); rw [hl.c1] at this; exact this
      · have := hd 2 (by omega); rw [hl.c2] at this; exact this
      · have := hd 3 (by omega); rw [hl.c3] at this; exact this
theorem lawToSSignKey (o : Option Addr) (F : List GSignKey) (cap lo : Nat) (w : World) (hF : GSignKeysL lo w.heap.size w o F) (hlen : F.length ≤ 1048576) (hfit : ∀ f ∈ F, f.fits 1048576) :
    Calls Tryd.prog 15 #[.slice o F.length cap] w fun e w' => e = .returned (.slice (some ⟨w.heap.size, 0, none⟩) F.length F.length) ∧ Hid (GSignKeysL w.heap.size w'.heap.size w' (some ⟨w.heap.size, 0, none⟩) F) ∧ Below w.heap.size w w' :=
  (lawToSXSignKey o F cap lo w hF hlen hfit).mono fun _ _ ⟨h1, h2, h3, _⟩ => ⟨h1, h2, h3⟩
set_option maxHeartbeats 1000000 in
theorem lawEqSignKey (n : GSignKey) (lo lo' : Nat) (w : World) :
    Calls Tryd.prog 33 #[GSignKeyV n, GSignKeyV n] w fun e w' => e = .returned (.bool true) ∧ Below w.heap.size w w' := by
  have _hlo := lo + lo'
  unfold GSignKeyV
  go_enter Tryd.func33, Tryd.ntmps33
  go_wp2
  go_ret
  exact ⟨rfl, ((Below.refl _ _).alloc (Nat.le_refl _) _).alloc (by simp) _⟩
set_option maxHeartbeats 2000000 in
set_option maxRecDepth 10000 in
theorem lawEqSSignKey (a b : Option Addr) (F : List GSignKey) (cap cap' lo lo' : Nat) (w : World) (hF : GSignKeysL lo w.heap.size w a F) (hG : GSignKeysL lo' w.heap.size w b F) (hlen : F.length ≤ 1048576) (hfit : ∀ f ∈ F, f.fits 1048576) :
    Calls Tryd.prog 21 #[.slice a F.length cap, .slice b F.length cap'] w fun e w' => e = .returned (.bool true) ∧ Below w.heap.size w w' := by
  have HF := mkHid hF
  have HG := mkHid hG
  have Hfit := mkHid hfit
  clear hF hG hfit
  go_enter Tryd.func21, Tryd.ntmps21
  go_wp2
  go_loopw [5] (fun i wr => ∃ k : Nat, k ≤ F.length ∧ i = .int .i64 k ∧ Below w.heap.size w wr) (fun i _ => F.length - (Lib.intOf i).toNat)
  case atStart => exact ⟨0, Nat.zero_le _, rfl, Below.refl _ _⟩
  case round =>
    obtain ⟨k, hk, rfl, hb0⟩ := hrel
    by_cases hlt : k < F.length
    · obtain ⟨a', rfl, ha, ha', hA⟩ := (HF.out.below hb0 (Nat.le_refl _)) k hlt
      obtain ⟨b', rfl, hb, hb', hB⟩ := (HG.out.below hb0 (Nat.le_refl _)) k hlt
      have hE := mkHid fun (w' : World) (_ : Below wr.heap.size wr w') => lawEqSignKey F[k] lo lo' w'
      have c0 := hA.c0
      have c1 := hA.c1
      have c2 := hA.c2
      have c3 := hA.c3
      have d0 := hB.c0
      have d1 := hB.c1
      have d2 := hB.c2
      have d3 := hB.c3
      clear hA hB
      generalize F[k] = n at *
      have cE : Hid (∀ d os, Calls Tryd.prog 33 #[GSignKeyV n, GSignKeyV n] (Go.Sort.grow (redrawn wr d) os) fun e w'' => e = .returned (.bool true) ∧ ∃ p : Regrown, w'' = Go.Sort.grow (redrawn wr p.d) p.os) := fun d os => Calls.regrown_of (hE.out _ (below_regrown wr d os))
      unfold GSignKeyV at cE
      go_wp2
      have k0 := cell_regrown c0
      have l0 := cell_regrown d0
      have k1 := cell_regrown c1
      have l1 := cell_regrown d1
      have k2 := cell_regrown c2
      have l2 := cell_regrown d2
      have k3 := cell_regrown c3
      have l3 := cell_regrown d3
      clear hE c0 c1 c2 c3 d0 d1 d2 d3
      refine wp_region_quiet_below (by kernel_rfl) (by kernel_rfl) ?_
      repeat (go_big_quiet_step (exact cE.out _ _))
      refine wpQuiet_nil ?_
      intro _ hw'
      obtain ⟨⟨dq, osq⟩, hw''⟩ := hw'
      subst hw''
      have hbq := mkHid (hb0.trans ((below_regrown wr dq osq).mono hb0.size))
      generalize Go.Sort.grow (redrawn wr dq) osq = wq at *
      clear k0 k1 k2 k3 l0 l1 l2 l3 cE hb0
      go_wp2
      go_roundw
      case rel => exact ⟨k + 1, by omega, by go_num, hbq.out⟩
      case measure => simp [Lib.intOf]; omega
    · go_wp2
      go_ret
      exact ⟨rfl, hb0⟩
end Go.Proofs.YtmpeflmfglbnnaaDoor
