
/- The program's words of a script: their table in memory, kindNamed. (By tools/gen/rpwords.py.) -/

/- The program's reader of a script: a text, a word of some kinds, a number. (By tools/gen/rpsmall2.py.) -/
import Derived.Test.YtlphojaeaogehaaGreatDoorRpSmall
import Derived.Laws.Rows
namespace Go.Proofs.YtlphojaeaogehaaGreatDoor
open Go.RowKit Go.Lib Go.Maps
def farr : Array Value := #[.int .i64 2, .string ⟨#[105, 102]⟩, .int .i64 3, .string ⟨#[114, 101, 112, 101, 97, 116]⟩, .int .i64 4, .string ⟨#[107, 101, 101, 112]⟩, .int .i64 5, .string ⟨#[100, 105, 115, 99, 97, 114, 100]⟩, .int .i64 6, .string ⟨#[115, 116, 111, 112]⟩, .int .i64 7, .string ⟨#[102, 105, 108, 101, 105, 110, 116, 111]⟩, .int .i64 8, .string ⟨#[114, 101, 100, 105, 114, 101, 99, 116]⟩, .int .i64 9, .string ⟨#[114, 101, 106, 101, 99, 116]⟩, .int .i64 10, .string ⟨#[97, 100, 100, 102, 108, 97, 103]⟩, .int .i64 11, .string ⟨#[115, 101, 116]⟩, .int .i64 20, .string ⟨#[116, 114, 117, 101]⟩, .int .i64 21, .string ⟨#[102, 97, 108, 115, 101]⟩, .int .i64 22, .string ⟨#[110, 111, 116]⟩, .int .i64 23, .string ⟨#[97, 108, 108, 111, 102]⟩, .int .i64 24, .string ⟨#[97, 110, 121, 111, 102]⟩, .int .i64 25, .string ⟨#[104, 101, 97, 100, 101, 114]⟩, .int .i64 26, .string ⟨#[97, 100, 100, 114, 101, 115, 115]⟩, .int .i64 27, .string ⟨#[101, 110, 118, 101, 108, 111, 112, 101]⟩, .int .i64 28, .string ⟨#[101, 120, 105, 115, 116, 115]⟩, .int .i64 29, .string ⟨#[115, 105, 122, 101]⟩, .int .i64 30, .string ⟨#[115, 105, 122, 101]⟩, .int .i64 31, .string ⟨#[115, 116, 114, 105, 110, 103]⟩]
def fwK : Nat → Int
  | 0 => 2
  | 1 => 3
  | 2 => 4
  | 3 => 5
  | 4 => 6
  | 5 => 7
  | 6 => 8
  | 7 => 9
  | 8 => 10
  | 9 => 11
  | 10 => 20
  | 11 => 21
  | 12 => 22
  | 13 => 23
  | 14 => 24
  | 15 => 25
  | 16 => 26
  | 17 => 27
  | 18 => 28
  | 19 => 29
  | 20 => 30
  | 21 => 31
  | _ => 0
def fwT : Nat → List UInt8
  | 0 => [105, 102]
  | 1 => [114, 101, 112, 101, 97, 116]
  | 2 => [107, 101, 101, 112]
  | 3 => [100, 105, 115, 99, 97, 114, 100]
  | 4 => [115, 116, 111, 112]
  | 5 => [102, 105, 108, 101, 105, 110, 116, 111]
  | 6 => [114, 101, 100, 105, 114, 101, 99, 116]
  | 7 => [114, 101, 106, 101, 99, 116]
  | 8 => [97, 100, 100, 102, 108, 97, 103]
  | 9 => [115, 101, 116]
  | 10 => [116, 114, 117, 101]
  | 11 => [102, 97, 108, 115, 101]
  | 12 => [110, 111, 116]
  | 13 => [97, 108, 108, 111, 102]
  | 14 => [97, 110, 121, 111, 102]
  | 15 => [104, 101, 97, 100, 101, 114]
  | 16 => [97, 100, 100, 114, 101, 115, 115]
  | 17 => [101, 110, 118, 101, 108, 111, 112, 101]
  | 18 => [101, 120, 105, 115, 116, 115]
  | 19 => [115, 105, 122, 101]
  | 20 => [115, 105, 122, 101]
  | 21 => [115, 116, 114, 105, 110, 103]
  | _ => []
set_option maxRecDepth 20000 in
theorem fw_at (i : Nat) (hi : i < 22) (w : World) : (Instr.index 98 (.agg farr) (.int .i64 i)).run Tryz.prog w = .ok (.agg #[.int .i64 (fwK i), .string ⟨(fwT i).toArray⟩]) w := by
  rcases (show i = 0 ∨ i = 1 ∨ i = 2 ∨ i = 3 ∨ i = 4 ∨ i = 5 ∨ i = 6 ∨ i = 7 ∨ i = 8 ∨ i = 9 ∨ i = 10 ∨ i = 11 ∨ i = 12 ∨ i = 13 ∨ i = 14 ∨ i = 15 ∨ i = 16 ∨ i = 17 ∨ i = 18 ∨ i = 19 ∨ i = 20 ∨ i = 21 by omega) with rfl | rfl | rfl | rfl | rfl | rfl | rfl | rfl | rfl | rfl | rfl | rfl | rfl | rfl | rfl | rfl | rfl | rfl | rfl | rfl | rfl | rfl <;> kernel_rfl
/-- The table of words, where it lies. -/
def FTab (w : World) : Prop := ∃ t fr, w.heap[1]? = some (.cells farr t fr)
set_option maxRecDepth 20000 in
theorem FTab.below {w w' : World} (h : FTab w) (hb : Below w.heap.size w w') : FTab w' := by
  obtain ⟨t, fr, h⟩ := h
  exact ⟨t, fr, (hb.block _ (heap_ltM h)).trans h⟩
namespace Rf
/-- The kind that a word stands for, by the table. -/
def look (x : List UInt8) : Nat → Nat → Int
  | 0, _ => 0
  | f + 1, i => if x == fwT i then fwK i else look x f (i + 1)
def lk (x : List UInt8) : Int := look x 22 0
end Rf
set_option maxRecDepth 20000 in
set_option maxHeartbeats 4000000 in
theorem implKindNamed (x : List UInt8) (w : World) (hF : FTab w) :
    Calls Tryz.prog 79 #[.string ⟨x.toArray⟩] w fun e w' => e = .returned (.int .i64 (Rf.lk x)) ∧ Below w.heap.size w w' := by
  obtain ⟨Z, hZ⟩ : ∃ Z, Rf.lk x = Z := ⟨_, rfl⟩
  rw [hZ]
  have HZ : Hid (Rf.look x 22 0 = Z) := hZ
  obtain ⟨xb, hxb⟩ : ∃ xb : ByteArray, ⟨x.toArray⟩ = xb := ⟨_, rfl⟩
  rw [hxb]
  have hxl : Hid (∀ i, (((⟨(fwT i).toArray⟩ : ByteArray).toList == xb.toList) = (x == fwT i))) := fun i => by
    rw [← hxb, ba_list', ba_list', Bool.eq_iff_iff, beq_iff_eq, beq_iff_eq]
    exact ⟨Eq.symm, Eq.symm⟩
  obtain ⟨tf, fr, hF⟩ := hF
  have HF := mkHid hF
  clear hF hZ hxb
  go_enter Tryz.func79, Tryz.ntmps79
  go_wp2_with (first | (refine wpL_load_row rfl 98 _ rfl 1 _ tf fr _ rfl HF.out Tryz.underlying98 rfl (by kernel_rfl) ?_) | go_in)
  go_loopw [6] (fun v wr => ∃ i f : Nat, v = .int .i64 i ∧ i + f = 22 ∧ Hid (Rf.look x f i = Z) ∧ Hid (Below w.heap.size w wr)) (fun v _ => 22 - (Lib.intOf v).toNat)
  case atStart => exact ⟨0, 22, rfl, rfl, HZ, Below.refl _ _⟩
  case round =>
    clear HZ
    obtain ⟨i, f, rfl, hif, Hz, Hb⟩ := hrel
    by_cases hi : i < 22
    · have f1 : (i : Int) < 22 := by omega
      obtain ⟨f, rfl⟩ : ∃ f', f = f' + 1 := ⟨f - 1, by omega⟩
      have hix := fun w => fw_at i hi w
      have hxi := hxl.out i
      have hz : Hid ((if x == fwT i then fwK i else Rf.look x f (i + 1)) = Z) := Hz
      clear Hz
      generalize fwK i = k at *
      generalize (⟨(fwT i).toArray⟩ : ByteArray) = t at *
      generalize (x == fwT i) = y at *
      have hb1 := mkHid (Hb.out.alloc Hb.out.size (.cells #[.int .i64 k, .string t] 97))
      cases y
      · have hz2 : Hid (Rf.look x f (i + 1) = Z) := hz
        clear hz
        go_wp2
        go_roundw
        case rel => exact ⟨i + 1, f, by go_num, by omega, hz2, hb1⟩
        case measure => simp [Lib.intOf]; omega
      · have hz2 : Hid (k = Z) := hz
        clear hz
        go_wp2
        go_ret
        exact ⟨congrArg (fun z => Ending.returned (.int .i64 z)) hz2.out, hb1.out⟩
    · have hf : f = 0 := by omega
      subst hf
      have f1 : ¬ (i : Int) < 22 := by omega
      have hz2 : Hid (0 = Z) := Hz
      go_wp2
      go_ret
      exact ⟨congrArg (fun z => Ending.returned (.int .i64 z)) hz2.out, Hb.out⟩
end Go.Proofs.YtlphojaeaogehaaGreatDoor
namespace Go.Proofs.YtlphojaeaogehaaGreatDoor
open Go.RowKit Go.Lib Go.Maps
section
variable {g : Nat} {s : ByteArray} {l : List UInt8} {T : List Rf.Tk} {n kd : Nat} {x : List UInt8} {a : Nat} {v : Value} {E : List NdE} {w : World}
set_option maxRecDepth 20000 in
theorem Rf.Cur.kd_eq (h : Rf.Cur l T n kd x a) (k : Nat) (hk : k = 2 ∨ k = 3) : (kd == k) = (Rf.kind T n == (if k = 2 then 110 else 116)) := by
  have hcl : Rf.cls x ≠ 110 ∧ Rf.cls x ≠ 116 := by
    cases x with
    | nil => exact ⟨by decide, by decide⟩
    | cons c r =>
      rw [Rf.cls]
      split
      · exact ⟨by decide, by decide⟩
      · split
        · split <;> exact ⟨by decide, by decide⟩
        · split <;> exact ⟨by decide, by decide⟩
  rw [Bool.eq_iff_iff, beq_iff_eq, beq_iff_eq]
  rcases hk with rfl | rfl
  · rw [if_pos rfl]
    rcases h.kinds with ⟨rfl, k1, -⟩ | ⟨rfl, k1, -⟩ | ⟨rfl, k1, -⟩ | ⟨rfl, k1, -⟩ <;> rw [k1]
    · exact ⟨fun h => (by cases h), fun h => (by cases h)⟩
    · exact ⟨fun h => (by cases h), fun h => absurd h hcl.1⟩
    · exact ⟨fun _ => rfl, fun _ => rfl⟩
    · exact ⟨fun h => (by cases h), fun h => (by cases h)⟩
  · rw [if_neg (by decide)]
    rcases h.kinds with ⟨rfl, k1, -⟩ | ⟨rfl, k1, -⟩ | ⟨rfl, k1, -⟩ | ⟨rfl, k1, -⟩ <;> rw [k1]
    · exact ⟨fun h => (by cases h), fun h => (by cases h)⟩
    · exact ⟨fun h => (by cases h), fun h => absurd h hcl.2⟩
    · exact ⟨fun h => (by cases h), fun h => (by cases h)⟩
    · exact ⟨fun _ => rfl, fun _ => rfl⟩
set_option maxRecDepth 20000 in
theorem Rf.Cur.txt (h : Rf.Cur l T n kd x a) (hk : Rf.kind T n = 116) : x = Rf.text T n := by
  have := h.kd_eq 3 (.inr rfl)
  rw [hk] at this
  obtain rfl : kd = 3 := by simpa using this
  rcases h.kinds with ⟨h, -⟩ | ⟨h, -⟩ | ⟨h, -⟩ | ⟨-, -, h⟩
  · cases h
  · cases h
  · cases h
  · exact h.symm
set_option maxRecDepth 20000 in
theorem Rf.Cur.num (h : Rf.Cur l T n kd x a) (hk : Rf.kind T n = 110) : x = Rf.text T n := by
  have := h.kd_eq 2 (.inl rfl)
  rw [hk] at this
  obtain rfl : kd = 2 := by simpa using this
  rcases h.kinds with ⟨h, -⟩ | ⟨h, -⟩ | ⟨-, -, h⟩ | ⟨h, -⟩
  · cases h
  · cases h
  · exact h.symm
  · cases h
set_option maxRecDepth 20000 in
set_option maxHeartbeats 4000000 in
theorem prSaying (h : Ps g s l T n kd x a v E w) (hl : s.data.toList = l) (hs : s.size ≤ 100000) :
    Calls Tryz.prog 61 #[scp g] w fun e w' => Ef g none w w' ∧ (((Rf.kind T n == 116) = false ∧ e = faultAt (Rf.pos T n)) ∨ (Rf.kind T n = 116 ∧ ((∃ kd' x' a', e = .returned (.string (Rf.ba (Rf.text T n))) ∧ Ps g s l T (n + 1) kd' x' a' v E w') ∨ Xf T (n + 1) e))) := by
  have c4 := h.sc.c4
  have bD : Below w.heap.size w w.drew := below_drew (Below.refl _ _)
  have hD := h.below bD
  have c3 := hD.sc.c3
  have eD := mkHid (Ef.of_below (g := g) (r := none) bD)
  have hkk := h.cur.kd_eq 3 (.inr rfl)
  rw [if_neg (by decide)] at hkk
  have hint : ((kd : Int) == 3) = (Rf.kind T n == 116) := by
    rw [← hkk, Bool.eq_iff_iff, beq_iff_eq, beq_iff_eq]
    omega
  have HD := mkHid hD
  cases hy : (Rf.kind T n == 116)
  · rw [hy] at hint
    have kN := mkHid (scNeedNo g s a (Rf.pos T n) w.drew hD.sc)
    clear h hD hkk bD hy
    go_enter Tryz.func61, Tryz.ntmps61
    go_wp2
    refine wp_region_any (by kernel_rfl) ?_
    refine wpAny_take (i := 0) (v := scp g) rfl (by kernel_rfl) (by kernel_rfl) (by kernel_rfl) (fun _ _ _ h => h) (Or.inl ⟨by rfl, ?_⟩) ?_
    · intro w
      go_simp
      all_goals first | done | (intro h; exfalso; omega) | omega
    go_simp
    refine wpAny_take (i := 1) (v := .pointer (some ⟨g, 0, none⟩)) rfl (by kernel_rfl) (by kernel_rfl) (by kernel_rfl) (fun _ _ _ h => h) (Or.inl ⟨by rfl, ?_⟩) ?_
    · intro w
      go_simp
      all_goals first | done | (intro h; exfalso; omega) | omega
    go_simp
    refine wpAny_take (i := 2) (v := .pointer (some ⟨g, 0, none⟩)) rfl (by kernel_rfl) (by kernel_rfl) (by kernel_rfl) (fun _ _ _ h => h) (Or.inl ⟨by rfl, ?_⟩) ?_
    · intro w
      go_simp
      all_goals first | done | (intro h; exfalso; omega) | omega
    go_simp
    refine wpAny_take (i := 3) (v := scp g) rfl (by kernel_rfl) (by kernel_rfl) (by kernel_rfl) (fun _ _ _ h => h) (Or.inl ⟨by rfl, ?_⟩) ?_
    · intro w
      go_simp
      all_goals first | done | (intro h; exfalso; omega) | omega
    go_simp
    refine wpAny_take (i := 4) (v := .pointer (some ⟨g, 0, none⟩)) rfl (by kernel_rfl) (by kernel_rfl) (by kernel_rfl) (fun _ _ _ h => h) (Or.inl ⟨by rfl, ?_⟩) ?_
    · intro w
      go_simp
      all_goals first | done | (intro h; exfalso; omega) | omega
    go_simp
    refine wpAny_take (i := 5) (v := .pointer (some ⟨g, 3, none⟩)) rfl (by kernel_rfl) (by kernel_rfl) (by kernel_rfl) (fun _ _ _ h => h) (Or.inl ⟨by rfl, ?_⟩) ?_
    · intro w
      go_simp
      all_goals first | done | (intro h; exfalso; omega) | omega
    go_simp
    refine wpAny_take (i := 6) (v := .pointer (some ⟨g, 3, none⟩)) rfl (by kernel_rfl) (by kernel_rfl) (by kernel_rfl) (fun _ _ _ h => h) (Or.inl ⟨by rfl, ?_⟩) ?_
    · intro w
      go_simp
      all_goals first | done | (intro h; exfalso; omega) | omega
    go_simp
    refine wpAny_ready (rs := [7]) (by kernel_rfl) (by simp) ?_
    refine AllReady.cons rfl (fun K hK => ?_) AllReady.nil
    go_simp
    refine hK _ _ ?_
    clear hK K
    go_simp
    refine wpAny_take (i := 8) (v := .bool false) rfl (by kernel_rfl) (by kernel_rfl) (by kernel_rfl) (fun _ _ _ h => h) (Or.inl ⟨by rfl, ?_⟩) ?_
    · intro w
      go_simp
      all_goals first | done | (intro h; exfalso; omega) | omega
    go_simp
    refine wpAny_ready (rs := [9]) (by kernel_rfl) (by simp) ?_
    refine AllReady.cons rfl (fun K hK => ?_) AllReady.nil
    go_simp
    refine kN.out.mono ?_
    rintro e w2 ⟨rfl, rfl⟩
    go_simp
    exact ⟨rfl, eD.out, .inl ⟨by first | rfl | trivial, rfl⟩⟩
  · rw [hy] at hint
    have hk : Rf.kind T n = 116 := by simpa using hy
    obtain rfl := h.cur.txt hk
    have kY := mkHid (scNeedYes g w.drew)
    have kA := mkHid (hD.adv hl hs (by rw [hk]; decide) (by rw [hk]; decide))
    have Hk := mkHid hk
    clear h hD hkk bD hy hk
    obtain ⟨xb, hxb⟩ : ∃ xb, Rf.ba (Rf.text T n) = xb := ⟨_, rfl⟩
    rw [show (⟨(Rf.text T n).toArray⟩ : ByteArray) = xb from hxb] at c4
    rw [hxb]
    clear hxb
    go_enter Tryz.func61, Tryz.ntmps61
    go_wp2
    refine wp_region_any (by kernel_rfl) ?_
    refine wpAny_take (i := 0) (v := scp g) rfl (by kernel_rfl) (by kernel_rfl) (by kernel_rfl) (fun _ _ _ h => h) (Or.inl ⟨by rfl, ?_⟩) ?_
    · intro w
      go_simp
      all_goals first | done | (intro h; exfalso; omega) | omega
    go_simp
    refine wpAny_take (i := 1) (v := .pointer (some ⟨g, 0, none⟩)) rfl (by kernel_rfl) (by kernel_rfl) (by kernel_rfl) (fun _ _ _ h => h) (Or.inl ⟨by rfl, ?_⟩) ?_
    · intro w
      go_simp
      all_goals first | done | (intro h; exfalso; omega) | omega
    go_simp
    refine wpAny_take (i := 2) (v := .pointer (some ⟨g, 0, none⟩)) rfl (by kernel_rfl) (by kernel_rfl) (by kernel_rfl) (fun _ _ _ h => h) (Or.inl ⟨by rfl, ?_⟩) ?_
    · intro w
      go_simp
      all_goals first | done | (intro h; exfalso; omega) | omega
    go_simp
    refine wpAny_take (i := 3) (v := scp g) rfl (by kernel_rfl) (by kernel_rfl) (by kernel_rfl) (fun _ _ _ h => h) (Or.inl ⟨by rfl, ?_⟩) ?_
    · intro w
      go_simp
      all_goals first | done | (intro h; exfalso; omega) | omega
    go_simp
    refine wpAny_take (i := 4) (v := .pointer (some ⟨g, 0, none⟩)) rfl (by kernel_rfl) (by kernel_rfl) (by kernel_rfl) (fun _ _ _ h => h) (Or.inl ⟨by rfl, ?_⟩) ?_
    · intro w
      go_simp
      all_goals first | done | (intro h; exfalso; omega) | omega
    go_simp
    refine wpAny_take (i := 5) (v := .pointer (some ⟨g, 3, none⟩)) rfl (by kernel_rfl) (by kernel_rfl) (by kernel_rfl) (fun _ _ _ h => h) (Or.inl ⟨by rfl, ?_⟩) ?_
    · intro w
      go_simp
      all_goals first | done | (intro h; exfalso; omega) | omega
    go_simp
    refine wpAny_take (i := 6) (v := .pointer (some ⟨g, 3, none⟩)) rfl (by kernel_rfl) (by kernel_rfl) (by kernel_rfl) (fun _ _ _ h => h) (Or.inl ⟨by rfl, ?_⟩) ?_
    · intro w
      go_simp
      all_goals first | done | (intro h; exfalso; omega) | omega
    go_simp
    refine wpAny_ready (rs := [7]) (by kernel_rfl) (by simp) ?_
    refine AllReady.cons rfl (fun K hK => ?_) AllReady.nil
    go_simp
    refine hK _ _ ?_
    clear hK K
    go_simp
    refine wpAny_take (i := 8) (v := .bool true) rfl (by kernel_rfl) (by kernel_rfl) (by kernel_rfl) (fun _ _ _ h => h) (Or.inl ⟨by rfl, ?_⟩) ?_
    · intro w
      go_simp
      all_goals first | done | (intro h; exfalso; omega) | omega
    go_simp
    refine wpAny_ready (rs := [9]) (by kernel_rfl) (by simp) ?_
    refine AllReady.cons rfl (fun K hK => ?_) AllReady.nil
    go_simp
    refine kY.out.mono ?_
    rintro e w2 ⟨rfl, rfl⟩
    go_simp
    refine hK _ _ ?_
    clear hK K
    go_simp
    refine wpAny_done (by kernel_rfl) ?_ _
    go_wp2_with (go_at_call 34; fail)
    refine kA.out.mono ?_
    rintro e w3 ⟨e3, ⟨kd', x', a', rfl, h3⟩ | ⟨m1, m2, rfl⟩⟩
    · replace h3 := mkHid h3
      replace e3 := mkHid (eD.out.trans0 e3)
      go_wp2
      go_ret
      exact ⟨e3.out, .inr ⟨Hk.out, .inl ⟨kd', x', a', rfl, h3.out⟩⟩⟩
    · exact ⟨rfl, eD.out.trans0 e3, .inr ⟨Hk.out, .inr ⟨m1, m2, rfl⟩⟩⟩
set_option maxRecDepth 20000 in
theorem kindTst : KindI 93 Fn.isTest := ⟨Go.Proofs.enters_of Tryz.func93 (by kernel_rfl) rfl, implIsTest⟩
set_option maxRecDepth 20000 in
theorem kindCmd : KindI 55 Fn.isCmd := ⟨Go.Proofs.enters_of Tryz.func55 (by kernel_rfl) rfl, implIsCmd⟩
set_option maxRecDepth 20000 in
set_option maxHeartbeats 4000000 in
theorem prKind {f : FuncId} {K : Int → Bool} (hK : KindI f K) (h : Ps g s l T n kd x a v E w) (hl : s.data.toList = l) (hs : s.size ≤ 100000) (hF : FTab w) (hn : (kd == 1 && K (Rf.lk x)) = true → Rf.kind T n ≠ 101 ∧ Rf.kind T n ≠ 120) :
    Calls Tryz.prog 54 #[scp g, .func (.func f) #[] #[]] w fun e w' => Ef g none w w' ∧ (((kd == 1 && K (Rf.lk x)) = false ∧ e = faultAt (Rf.pos T n)) ∨ ((kd == 1 && K (Rf.lk x)) = true ∧ ((∃ kd' x' a', e = .returned (.int .i64 (Rf.lk x)) ∧ Ps g s l T (n + 1) kd' x' a' v E w') ∨ Xf T (n + 1) e))) := by
  have hEn := hK.enters
  have c4 := h.sc.c4
  have kM := mkHid (implKindNamed x w hF)
  obtain ⟨xb, hxb⟩ : ∃ xb : ByteArray, ⟨x.toArray⟩ = xb := ⟨_, rfl⟩
  rw [hxb] at c4 kM
  obtain ⟨k, hk⟩ : ∃ k, Rf.lk x = k := ⟨_, rfl⟩
  rw [hk] at kM hn ⊢
  replace hn := mkHid hn
  have H := mkHid h
  have kC := mkHid (fun W => hK.calls k W)
  have kN := mkHid (fun (W : World) (h : Ps g s l T n kd x a v E W) => scNeedNo g s a (Rf.pos T n) W h.sc)
  have kY := mkHid (fun (W : World) => scNeedYes g W)
  have eB := mkHid (fun (W : World) (h : Below w.heap.size w W) => Ef.of_below (g := g) (r := none) h)
  clear h hxb hF hK
  go_enter Tryz.func54, Tryz.ntmps54
  go_wp2_with (go_at_call 79; fail)
  refine kM.out.mono ?_
  rintro e w1 ⟨rfl, hb1⟩
  have bD : Below w1.heap.size w1 w1.drew := below_drew (Below.refl _ _)
  have H1 := mkHid ((H.out.below hb1).below bD)
  have eD := mkHid (eB.out _ (hb1.trans (bD.mono hb1.size)))
  have c3 := H1.out.sc.c3
  clear kM hb1 bD c4
  cases hkd : (kd == 1)
  · have hint : ((kd : Int) == 1) = false := by rw [beq_eq_false_iff_ne] at hkd ⊢; omega
    go_wp2
    refine wp_region_any (by kernel_rfl) ?_
    refine wpAny_take (i := 0) (v := scp g) rfl (by kernel_rfl) (by kernel_rfl) (by kernel_rfl) (fun _ _ _ h => h) (Or.inl ⟨by rfl, ?_⟩) ?_
    · intro w
      go_simp
      all_goals first | done | (intro h; exfalso; omega) | omega
    go_simp
    refine wpAny_take (i := 1) (v := .pointer (some ⟨g, 0, none⟩)) rfl (by kernel_rfl) (by kernel_rfl) (by kernel_rfl) (fun _ _ _ h => h) (Or.inl ⟨by rfl, ?_⟩) ?_
    · intro w
      go_simp
      all_goals first | done | (intro h; exfalso; omega) | omega
    go_simp
    refine wpAny_take (i := 2) (v := .pointer (some ⟨g, 0, none⟩)) rfl (by kernel_rfl) (by kernel_rfl) (by kernel_rfl) (fun _ _ _ h => h) (Or.inl ⟨by rfl, ?_⟩) ?_
    · intro w
      go_simp
      all_goals first | done | (intro h; exfalso; omega) | omega
    go_simp
    refine wpAny_take (i := 3) (v := scp g) rfl (by kernel_rfl) (by kernel_rfl) (by kernel_rfl) (fun _ _ _ h => h) (Or.inl ⟨by rfl, ?_⟩) ?_
    · intro w
      go_simp
      all_goals first | done | (intro h; exfalso; omega) | omega
    go_simp
    refine wpAny_take (i := 4) (v := .pointer (some ⟨g, 0, none⟩)) rfl (by kernel_rfl) (by kernel_rfl) (by kernel_rfl) (fun _ _ _ h => h) (Or.inl ⟨by rfl, ?_⟩) ?_
    · intro w
      go_simp
      all_goals first | done | (intro h; exfalso; omega) | omega
    go_simp
    refine wpAny_take (i := 5) (v := .pointer (some ⟨g, 3, none⟩)) rfl (by kernel_rfl) (by kernel_rfl) (by kernel_rfl) (fun _ _ _ h => h) (Or.inl ⟨by rfl, ?_⟩) ?_
    · intro w
      go_simp
      all_goals first | done | (intro h; exfalso; omega) | omega
    go_simp
    refine wpAny_take (i := 6) (v := .pointer (some ⟨g, 3, none⟩)) rfl (by kernel_rfl) (by kernel_rfl) (by kernel_rfl) (fun _ _ _ h => h) (Or.inl ⟨by rfl, ?_⟩) ?_
    · intro w
      go_simp
      all_goals first | done | (intro h; exfalso; omega) | omega
    go_simp
    refine wpAny_ready (rs := [7]) (by kernel_rfl) (by simp) ?_
    refine AllReady.cons rfl (fun K hK => ?_) AllReady.nil
    go_simp
    refine hK _ _ ?_
    clear hK K
    go_simp
    refine wpAny_take (i := 8) (v := .bool false) rfl (by kernel_rfl) (by kernel_rfl) (by kernel_rfl) (fun _ _ _ h => h) (Or.inl ⟨by rfl, ?_⟩) ?_
    · intro w
      go_simp
      all_goals first | done | (intro h; exfalso; omega) | omega
    go_simp
    refine wpAny_take (i := 9) (v := .bool false) rfl (by kernel_rfl) (by kernel_rfl) (by kernel_rfl) (fun _ _ _ h => h) (Or.inl ⟨by rfl, ?_⟩) ?_
    · intro w
      go_simp
      all_goals first | done | (intro h; exfalso; omega) | omega
    go_simp
    refine wpAny_take (i := 10) (v := undef) rfl (by kernel_rfl) (by kernel_rfl) (by kernel_rfl) (fun _ _ _ h => h) (Or.inr ⟨by rfl, rfl⟩) ?_
    go_simp
    refine wpAny_take (i := 11) (v := undef) rfl (by kernel_rfl) (by kernel_rfl) (by kernel_rfl) (fun _ _ _ h => h) (Or.inr ⟨by rfl, rfl⟩) ?_
    go_simp
    refine wpAny_all (rs := [12]) (by kernel_rfl) (by simp) ?_
    intro j hj
    simp only [List.mem_cons, List.not_mem_nil, or_false] at hj
    subst hj
    refine Yields.wpOp (v := undef) rfl (Or.inr ⟨by rfl, rfl⟩) ?_
    go_simp
    refine wpAny_take (i := 13) (v := .bool false) rfl (by kernel_rfl) (by kernel_rfl) (by kernel_rfl) (fun _ _ _ h => h) (Or.inl ⟨by rfl, ?_⟩) ?_
    · intro w
      go_simp
      all_goals first | done | (intro h; exfalso; omega) | omega
    go_simp
    refine wpAny_ready (rs := [14]) (by kernel_rfl) (by simp) ?_
    refine AllReady.cons rfl (fun K hK => ?_) AllReady.nil
    go_simp
    refine (kN.out _ H1.out).mono ?_
    rintro e w2 ⟨rfl, rfl⟩
    go_simp
    exact ⟨rfl, eD.out, .inl ⟨by rw [hkd]; rfl, rfl⟩⟩
  · have hint : ((kd : Int) == 1) = true := by rw [beq_iff_eq] at hkd ⊢; omega
    cases hKk : K k
    · rw [hKk] at kC
      go_wp2
      refine wp_region_any (by kernel_rfl) ?_
      refine wpAny_take (i := 0) (v := scp g) rfl (by kernel_rfl) (by kernel_rfl) (by kernel_rfl) (fun _ _ _ h => h) (Or.inl ⟨by rfl, ?_⟩) ?_
      · intro w
        go_simp
        all_goals first | done | (intro h; exfalso; omega) | omega
      go_simp
      refine wpAny_take (i := 1) (v := .pointer (some ⟨g, 0, none⟩)) rfl (by kernel_rfl) (by kernel_rfl) (by kernel_rfl) (fun _ _ _ h => h) (Or.inl ⟨by rfl, ?_⟩) ?_
      · intro w
        go_simp
        all_goals first | done | (intro h; exfalso; omega) | omega
      go_simp
      refine wpAny_take (i := 2) (v := .pointer (some ⟨g, 0, none⟩)) rfl (by kernel_rfl) (by kernel_rfl) (by kernel_rfl) (fun _ _ _ h => h) (Or.inl ⟨by rfl, ?_⟩) ?_
      · intro w
        go_simp
        all_goals first | done | (intro h; exfalso; omega) | omega
      go_simp
      refine wpAny_take (i := 3) (v := scp g) rfl (by kernel_rfl) (by kernel_rfl) (by kernel_rfl) (fun _ _ _ h => h) (Or.inl ⟨by rfl, ?_⟩) ?_
      · intro w
        go_simp
        all_goals first | done | (intro h; exfalso; omega) | omega
      go_simp
      refine wpAny_take (i := 4) (v := .pointer (some ⟨g, 0, none⟩)) rfl (by kernel_rfl) (by kernel_rfl) (by kernel_rfl) (fun _ _ _ h => h) (Or.inl ⟨by rfl, ?_⟩) ?_
      · intro w
        go_simp
        all_goals first | done | (intro h; exfalso; omega) | omega
      go_simp
      refine wpAny_take (i := 5) (v := .pointer (some ⟨g, 3, none⟩)) rfl (by kernel_rfl) (by kernel_rfl) (by kernel_rfl) (fun _ _ _ h => h) (Or.inl ⟨by rfl, ?_⟩) ?_
      · intro w
        go_simp
        all_goals first | done | (intro h; exfalso; omega) | omega
      go_simp
      refine wpAny_take (i := 6) (v := .pointer (some ⟨g, 3, none⟩)) rfl (by kernel_rfl) (by kernel_rfl) (by kernel_rfl) (fun _ _ _ h => h) (Or.inl ⟨by rfl, ?_⟩) ?_
      · intro w
        go_simp
        all_goals first | done | (intro h; exfalso; omega) | omega
      go_simp
      refine wpAny_ready (rs := [7]) (by kernel_rfl) (by simp) ?_
      refine AllReady.cons rfl (fun K hK => ?_) AllReady.nil
      go_simp
      refine hK _ _ ?_
      clear hK K
      go_simp
      refine wpAny_take (i := 8) (v := .bool true) rfl (by kernel_rfl) (by kernel_rfl) (by kernel_rfl) (fun _ _ _ h => h) (Or.inl ⟨by rfl, ?_⟩) ?_
      · intro w
        go_simp
        all_goals first | done | (intro h; exfalso; omega) | omega
      go_simp
      refine wpAny_take (i := 9) (v := .bool true) rfl (by kernel_rfl) (by kernel_rfl) (by kernel_rfl) (fun _ _ _ h => h) (Or.inl ⟨by rfl, ?_⟩) ?_
      · intro w
        go_simp
        all_goals first | done | (intro h; exfalso; omega) | omega
      go_simp
      refine wpAny_take (i := 10) (v := .func (.func f) #[] #[]) rfl (by kernel_rfl) (by kernel_rfl) (by kernel_rfl) (fun _ _ _ h => h) (Or.inl ⟨by rfl, ?_⟩) ?_
      · intro w
        go_simp
        all_goals first | done | (intro h; exfalso; omega) | omega
      go_simp
      refine wpAny_take (i := 11) (v := .int .i64 k) rfl (by kernel_rfl) (by kernel_rfl) (by kernel_rfl) (fun _ _ _ h => h) (Or.inl ⟨by rfl, ?_⟩) ?_
      · intro w
        go_simp
        all_goals first | done | (intro h; exfalso; omega) | omega
      go_simp
      refine wpAny_ready (rs := [12]) (by kernel_rfl) (by simp) ?_
      refine AllReady.cons rfl (fun K hK => ?_) AllReady.nil
      go_simp
      refine (kC.out _).mono ?_
      rintro e w2 ⟨rfl, rfl⟩
      go_simp
      refine hK _ _ ?_
      clear hK K
      go_simp
      refine wpAny_take (i := 13) (v := .bool false) rfl (by kernel_rfl) (by kernel_rfl) (by kernel_rfl) (fun _ _ _ h => h) (Or.inl ⟨by rfl, ?_⟩) ?_
      · intro w
        go_simp
        all_goals first | done | (intro h; exfalso; omega) | omega
      go_simp
      refine wpAny_ready (rs := [14]) (by kernel_rfl) (by simp) ?_
      refine AllReady.cons rfl (fun K hK => ?_) AllReady.nil
      go_simp
      refine (kN.out _ H1.out).mono ?_
      rintro e w2 ⟨rfl, rfl⟩
      go_simp
      exact ⟨rfl, eD.out, .inl ⟨by rw [hkd, hKk]; rfl, rfl⟩⟩
    · rw [hKk] at kC
      go_wp2
      refine wp_region_any (by kernel_rfl) ?_
      refine wpAny_take (i := 0) (v := scp g) rfl (by kernel_rfl) (by kernel_rfl) (by kernel_rfl) (fun _ _ _ h => h) (Or.inl ⟨by rfl, ?_⟩) ?_
      · intro w
        go_simp
        all_goals first | done | (intro h; exfalso; omega) | omega
      go_simp
      refine wpAny_take (i := 1) (v := .pointer (some ⟨g, 0, none⟩)) rfl (by kernel_rfl) (by kernel_rfl) (by kernel_rfl) (fun _ _ _ h => h) (Or.inl ⟨by rfl, ?_⟩) ?_
      · intro w
        go_simp
        all_goals first | done | (intro h; exfalso; omega) | omega
      go_simp
      refine wpAny_take (i := 2) (v := .pointer (some ⟨g, 0, none⟩)) rfl (by kernel_rfl) (by kernel_rfl) (by kernel_rfl) (fun _ _ _ h => h) (Or.inl ⟨by rfl, ?_⟩) ?_
      · intro w
        go_simp
        all_goals first | done | (intro h; exfalso; omega) | omega
      go_simp
      refine wpAny_take (i := 3) (v := scp g) rfl (by kernel_rfl) (by kernel_rfl) (by kernel_rfl) (fun _ _ _ h => h) (Or.inl ⟨by rfl, ?_⟩) ?_
      · intro w
        go_simp
        all_goals first | done | (intro h; exfalso; omega) | omega
      go_simp
      refine wpAny_take (i := 4) (v := .pointer (some ⟨g, 0, none⟩)) rfl (by kernel_rfl) (by kernel_rfl) (by kernel_rfl) (fun _ _ _ h => h) (Or.inl ⟨by rfl, ?_⟩) ?_
      · intro w
        go_simp
        all_goals first | done | (intro h; exfalso; omega) | omega
      go_simp
      refine wpAny_take (i := 5) (v := .pointer (some ⟨g, 3, none⟩)) rfl (by kernel_rfl) (by kernel_rfl) (by kernel_rfl) (fun _ _ _ h => h) (Or.inl ⟨by rfl, ?_⟩) ?_
      · intro w
        go_simp
        all_goals first | done | (intro h; exfalso; omega) | omega
      go_simp
      refine wpAny_take (i := 6) (v := .pointer (some ⟨g, 3, none⟩)) rfl (by kernel_rfl) (by kernel_rfl) (by kernel_rfl) (fun _ _ _ h => h) (Or.inl ⟨by rfl, ?_⟩) ?_
      · intro w
        go_simp
        all_goals first | done | (intro h; exfalso; omega) | omega
      go_simp
      refine wpAny_ready (rs := [7]) (by kernel_rfl) (by simp) ?_
      refine AllReady.cons rfl (fun K hK => ?_) AllReady.nil
      go_simp
      refine hK _ _ ?_
      clear hK K
      go_simp
      refine wpAny_take (i := 8) (v := .bool true) rfl (by kernel_rfl) (by kernel_rfl) (by kernel_rfl) (fun _ _ _ h => h) (Or.inl ⟨by rfl, ?_⟩) ?_
      · intro w
        go_simp
        all_goals first | done | (intro h; exfalso; omega) | omega
      go_simp
      refine wpAny_take (i := 9) (v := .bool true) rfl (by kernel_rfl) (by kernel_rfl) (by kernel_rfl) (fun _ _ _ h => h) (Or.inl ⟨by rfl, ?_⟩) ?_
      · intro w
        go_simp
        all_goals first | done | (intro h; exfalso; omega) | omega
      go_simp
      refine wpAny_take (i := 10) (v := .func (.func f) #[] #[]) rfl (by kernel_rfl) (by kernel_rfl) (by kernel_rfl) (fun _ _ _ h => h) (Or.inl ⟨by rfl, ?_⟩) ?_
      · intro w
        go_simp
        all_goals first | done | (intro h; exfalso; omega) | omega
      go_simp
      refine wpAny_take (i := 11) (v := .int .i64 k) rfl (by kernel_rfl) (by kernel_rfl) (by kernel_rfl) (fun _ _ _ h => h) (Or.inl ⟨by rfl, ?_⟩) ?_
      · intro w
        go_simp
        all_goals first | done | (intro h; exfalso; omega) | omega
      go_simp
      refine wpAny_ready (rs := [12]) (by kernel_rfl) (by simp) ?_
      refine AllReady.cons rfl (fun K hK => ?_) AllReady.nil
      go_simp
      refine (kC.out _).mono ?_
      rintro e w2 ⟨rfl, rfl⟩
      go_simp
      refine hK _ _ ?_
      clear hK K
      go_simp
      refine wpAny_take (i := 13) (v := .bool true) rfl (by kernel_rfl) (by kernel_rfl) (by kernel_rfl) (fun _ _ _ h => h) (Or.inl ⟨by rfl, ?_⟩) ?_
      · intro w
        go_simp
        all_goals first | done | (intro h; exfalso; omega) | omega
      go_simp
      refine wpAny_ready (rs := [14]) (by kernel_rfl) (by simp) ?_
      refine AllReady.cons rfl (fun K hK => ?_) AllReady.nil
      go_simp
      refine (kY.out _).mono ?_
      rintro e w3 ⟨rfl, rfl⟩
      go_simp
      refine hK _ _ ?_
      clear hK K
      go_simp
      refine wpAny_done (by kernel_rfl) ?_ _
      obtain ⟨hn1, hn2⟩ := hn.out (by rw [hkd, hKk]; rfl)
      have kA := mkHid (H1.out.adv hl hs hn1 hn2)
      go_wp2_with (go_at_call 34; fail)
      refine kA.out.mono ?_
      rintro e w3 ⟨e3, ⟨kd', x', a', rfl, h3⟩ | ⟨m1, m2, rfl⟩⟩
      · replace h3 := mkHid h3
        replace e3 := mkHid (eD.out.trans0 e3)
        go_wp2
        go_ret
        exact ⟨e3.out, .inr ⟨by rw [hkd, hKk]; rfl, .inl ⟨kd', x', a', rfl, h3.out⟩⟩⟩
      · exact ⟨rfl, eD.out.trans0 e3, .inr ⟨by rw [hkd, hKk]; rfl, .inr ⟨m1, m2, rfl⟩⟩⟩
end
end Go.Proofs.YtlphojaeaogehaaGreatDoor
