
/- Hosts in order: plain. -/
/- slices.SortFunc at rows of a table, cmp.Compare, at this translation. -/

/- A table in order: cmp.Compare of texts, cmp.Or, byPreference, slices.SortFunc, SortedFunc. -/

/- The order of a table's rows; slices.SortFunc at it. -/

/- slices.Values, slices.SortedFunc at a table's rows. -/
import Derived.Test.YtdjghniinnfncaaGreatDoorExPlain
import Derived.Sort.Statements
import Derived.Shelf.SlSortCmp.WholeK
import Derived.Shelf.SlicesG.Cmp
import Derived.Ground.SlsfProg
import Derived.Ground.SlgcProg
import Derived.Test.YtdjghniinnfncaaGreatDoorProg
import Derived.OrdersHeld
import Derived.Sort.Walk0
import Derived.Shelf.SlSortCmp.NoneTotal
namespace Go.Proofs.YtdjghniinnfncaaGreatDoor
open Go.RowKit Go.Lib
namespace Ho
abbrev Key := Int × List UInt8
def key (m : GMx) : Key := (m.prefer, m.host.data.toList)
/-- Not behind. -/
def leK (a b : Key) : Bool := decide (a.1 < b.1) || (a.1 == b.1 && !decide (b.2 < a.2))
def le (a b : GMx) : Bool := leK (key a) (key b)
set_option maxRecDepth 20000 in
theorem leK_anti (a b : Key) (h1 : leK a b = true) (h2 : leK b a = true) : a = b := by
  unfold leK at h1 h2
  simp only [Bool.or_eq_true, decide_eq_true_eq, Bool.and_eq_true, beq_iff_eq, Bool.not_eq_true', decide_eq_false_iff_not] at h1 h2
  have e1 : a.1 = b.1 := by omega
  have h3 : ¬ b.2 < a.2 := by
    rcases h1 with h | h
    · omega
    · exact h.2
  have h4 : ¬ a.2 < b.2 := by
    rcases h2 with h | h
    · omega
    · exact h.2
  exact Prod.ext e1 (List.le_antisymm h3 h4)
set_option maxRecDepth 20000 in
theorem leK_total (a b : Key) (h : leK a b = false) : leK b a = true := by
  unfold leK at *
  simp only [Bool.or_eq_false_iff, decide_eq_false_iff_not, Bool.and_eq_false_iff, beq_eq_false_iff_ne, Bool.not_eq_false', decide_eq_true_eq] at h
  simp only [Bool.or_eq_true, decide_eq_true_eq, Bool.and_eq_true, beq_iff_eq, Bool.not_eq_true', decide_eq_false_iff_not]
  by_cases e : a.1 = b.1
  · right
    refine ⟨e.symm, ?_⟩
    rcases h.2 with h2 | h2
    · exact absurd e h2
    · exact fun h3 => List.lt_irrefl _ (List.lt_trans h2 h3)
  · left
    omega
set_option maxRecDepth 20000 in
theorem leK_trans (a b c : Key) (h1 : leK a b = true) (h2 : leK b c = true) : leK a c = true := by
  unfold leK at *
  simp only [Bool.or_eq_true, decide_eq_true_eq, Bool.and_eq_true, beq_iff_eq, Bool.not_eq_true', decide_eq_false_iff_not] at *
  rcases h1 with h1 | ⟨h1, h3⟩
  · left
    rcases h2 with h2 | h2 <;> omega
  · rcases h2 with h2 | ⟨h2, h4⟩
    · left; omega
    · right
      exact ⟨by omega, List.le_trans (l₁ := a.2) (l₂ := b.2) (l₃ := c.2) h3 h4⟩
set_option maxRecDepth 20000 in
theorem uniq {α : Type} {r : α → α → Prop} (anti : ∀ a b, r a b → r b a → a = b) : ∀ (l1 l2 : List α), l1.Perm l2 → l1.Pairwise r → l2.Pairwise r → l1 = l2
  | [], l2, hp, _, _ => by rw [hp.nil_eq]
  | a :: t, l2, hp, h1, h2 => by
    cases l2 with
    | nil => exact absurd hp.symm.nil_eq (by simp)
    | cons b s =>
      rw [List.pairwise_cons] at h1 h2
      have hab : a = b := by
        by_cases e : a = b
        · exact e
        · have ha : a ∈ s := by
            rcases List.mem_cons.1 (hp.mem_iff.1 List.mem_cons_self) with h | h
            · exact absurd h e
            · exact h
          have hb : b ∈ t := by
            rcases List.mem_cons.1 (hp.mem_iff.2 List.mem_cons_self) with h | h
            · exact absurd h.symm e
            · exact h
          exact anti a b (h1.1 b hb) (h2.1 a ha)
      subst hab
      rw [uniq anti t s hp.cons_inv h1.2 h2.2]
def Up (l : List GMx) : Prop := l.Pairwise fun a b => le a b = true
set_option maxRecDepth 20000 in
theorem keys_eq {l1 l2 : List GMx} (hp : l1.Perm l2) (h1 : Up l1) (h2 : Up l2) : l1.map key = l2.map key :=
  uniq (r := fun a b => leK a b = true) leK_anti _ _ (hp.map key) (List.pairwise_map.2 h1) (List.pairwise_map.2 h2)
/-- How far the first ones go that are not behind t. -/
def place (t : GMx) (l : List GMx) : Nat := (l.takeWhile fun m => le m t).length
def ins (t : GMx) (l : List GMx) : List GMx := l.take (place t l) ++ t :: l.drop (place t l)
set_option maxRecDepth 20000 in
theorem ins_perm (t : GMx) (l : List GMx) : (ins t l).Perm (t :: l) := by
  unfold ins
  refine List.perm_middle.trans ?_
  rw [List.take_append_drop]
set_option maxRecDepth 20000 in
theorem place_cons (t m : GMx) (l : List GMx) : place t (m :: l) = if le m t then place t l + 1 else 0 := by
  unfold place
  rw [List.takeWhile_cons]
  split <;> simp
set_option maxRecDepth 20000 in
theorem place_le (t : GMx) (l : List GMx) : place t l ≤ l.length := by
  unfold place
  exact (List.takeWhile_sublist _).length_le
set_option maxRecDepth 20000 in
theorem ins_up (t : GMx) : ∀ (l : List GMx), Up l → Up (ins t l)
  | [], _ => by simp [ins, Up]
  | m :: l, h => by
    unfold Up at h
    rw [List.pairwise_cons] at h
    unfold ins
    rw [place_cons]
    cases hm : le m t
    · simp only [Bool.false_eq_true, if_false, List.take_zero, List.nil_append, List.drop_zero]
      have ht : le t m = true := leK_total _ _ hm
      refine List.pairwise_cons.2 ⟨?_, List.pairwise_cons.2 h⟩
      intro b hb
      rcases List.mem_cons.1 hb with rfl | hb
      · exact ht
      · exact leK_trans _ _ _ ht (h.1 b hb)
    · simp only [if_true, List.take_succ_cons, List.cons_append, List.drop_succ_cons]
      refine List.pairwise_cons.2 ⟨?_, ins_up t l h.2⟩
      intro b hb
      have hb2 : b ∈ ins t l := hb
      rcases List.mem_cons.1 ((ins_perm t l).mem_iff.1 hb2) with rfl | hb3
      · exact hm
      · exact h.1 b hb3
def sorted (p : GMx → Bool) (T : List GMx) : List GMx := (T.filter p).foldl (fun l t => ins t l) []
set_option maxRecDepth 20000 in
theorem fold_up (T : List GMx) : ∀ l, Up l → Up (T.foldl (fun l t => ins t l) l) := by
  induction T with
  | nil => exact fun l h => h
  | cons t r ih => exact fun l h => ih _ (ins_up t l h)
set_option maxRecDepth 20000 in
theorem fold_perm (T : List GMx) : ∀ l, (T.foldl (fun l t => ins t l) l).Perm (T ++ l) := by
  induction T with
  | nil => exact fun l => List.Perm.refl _
  | cons t r ih =>
    intro l
    refine (ih _).trans ?_
    refine ((ins_perm t l).append_left r).trans ?_
    exact List.perm_middle
set_option maxRecDepth 20000 in
theorem sorted_up (p : GMx → Bool) (T : List GMx) : Up (sorted p T) := fold_up _ [] List.Pairwise.nil
set_option maxRecDepth 20000 in
theorem sorted_perm (p : GMx → Bool) (T : List GMx) : (sorted p T).Perm (T.filter p) := by
  have := fold_perm (T.filter p) []
  rw [List.append_nil] at this
  exact this
def put (o : List ByteArray) (k : ByteArray) : List ByteArray := if Ex.isIn o k then o else o ++ [k]
def once (l : List GMx) : List ByteArray := l.foldl (fun o m => put o m.host) []
def onceK (l : List Key) : List ByteArray := l.foldl (fun o m => put o ⟨m.2.toArray⟩) []
set_option maxRecDepth 20000 in
theorem once_key (l : List GMx) : once l = onceK (l.map key) := by
  unfold once onceK
  rw [List.foldl_map]
  rfl
set_option maxRecDepth 20000 in
theorem once_same {l1 l2 : List GMx} (hp : l1.Perm l2) (h1 : Up l1) (h2 : Up l2) : once l1 = once l2 := by rw [once_key, once_key, keys_eq hp h1 h2]
set_option maxRecDepth 20000 in
theorem once_sorted (p : GMx → Bool) (T D : List GMx) (hp : D.Perm T) (hu : Up D) : once (D.filter p) = once (sorted p T) :=
  once_same ((hp.filter p).trans (sorted_perm p T).symm) (List.Pairwise.filter _ hu) (sorted_up p T)
set_option maxRecDepth 20000 in
theorem put_nodup {o : List ByteArray} (h : o.Nodup) (k : ByteArray) : (put o k).Nodup := by
  unfold put
  split
  · exact h
  · rename_i hn
    have hn' : k ∉ o := (Ex.isIn_no _ _).1 (by simpa using hn)
    rw [List.nodup_append]
    refine ⟨h, by simp, ?_⟩
    intro a ha b hb e
    simp only [List.mem_cons, List.not_mem_nil, or_false] at hb
    subst hb
    subst e
    exact hn' ha
set_option maxRecDepth 20000 in
theorem fold_nodup (l : List GMx) : ∀ o : List ByteArray, o.Nodup → (l.foldl (fun o m => put o m.host) o).Nodup := by
  induction l with
  | nil => exact fun o h => h
  | cons m r ih => exact fun o h => ih _ (put_nodup h _)
set_option maxRecDepth 20000 in
theorem fold_len (l : List GMx) : ∀ o : List ByteArray, (l.foldl (fun o m => put o m.host) o).length ≤ o.length + l.length := by
  induction l with
  | nil => exact fun o => Nat.le_refl _
  | cons m r ih =>
    intro o
    refine Nat.le_trans (ih _) ?_
    show (put o m.host).length + r.length ≤ o.length + (m :: r).length
    unfold put
    split <;> simp <;> omega
set_option maxRecDepth 20000 in
theorem fold_ne (l : List GMx) : ∀ o : List ByteArray, o ≠ [] → (l.foldl (fun o m => put o m.host) o) ≠ [] := by
  induction l with
  | nil => exact fun o h => h
  | cons m r ih =>
    intro o h
    refine ih _ ?_
    show put o m.host ≠ []
    unfold put
    split
    · exact h
    · simp
set_option maxRecDepth 20000 in
theorem once_nil (l : List GMx) : once l = [] ↔ l = [] := by
  cases l with
  | nil => simp [once]
  | cons m r =>
    simp only [List.cons_ne_nil, iff_false]
    exact fold_ne r _ (by simp [put, Ex.isIn])
/-- The hosts of a domain. -/
def hosts (p : GMx → Bool) (T : List GMx) (d : ByteArray) : List ByteArray := if once (sorted p T) = [] then [d] else once (sorted p T)
set_option maxRecDepth 20000 in
theorem hosts_nodup (p : GMx → Bool) (T : List GMx) (d : ByteArray) : (hosts p T d).Nodup := by
  unfold hosts
  split
  · simp
  · exact fold_nodup _ [] List.nodup_nil
set_option maxRecDepth 20000 in
theorem hosts_ne (p : GMx → Bool) (T : List GMx) (d : ByteArray) : hosts p T d ≠ [] := by
  unfold hosts
  split
  · simp
  · assumption
set_option maxRecDepth 20000 in
theorem hosts_len (p : GMx → Bool) (T : List GMx) (d : ByteArray) : (hosts p T d).length ≤ T.length + 1 := by
  unfold hosts
  split
  · simp
  · have h1 := fold_len (sorted p T) []
    have h2 := (sorted_perm p T).length_eq
    have h3 : (T.filter p).length ≤ T.length := List.length_filter_le _ _
    unfold once
    simp only [List.length_nil] at h1
    omega
end Ho
end Go.Proofs.YtdjghniinnfncaaGreatDoor
namespace Go.Proofs
open Go.Shelf
def Tryz.sortMx_ren : Go.Shelf.Ren := ⟨fun | 6 => 67 | 15 => 87 | 14 => 86 | 28 => 104 | 29 => 105 | 20 => 96 | 21 => 97 | 22 => 98 | 23 => 99 | 24 => 100 | 25 => 101 | 26 => 102 | 27 => 103 | 46 => 112 | 47 => 113 | 48 => 114 | 49 => 115 | 50 => 116 | 57 => 121 | n => n, fun | 22 => 33 | 24 => 58 | 25 => 88 | 3 => 3 | 39 => 110 | 0 => 0 | 53 => 122 | 55 => 124 | 4 => 4 | 46 => 115 | 45 => 114 | 50 => 119 | 5 => 5 | 9 => 9 | 66 => 127 | 70 => 131 | 76 => 134 | 77 => 135 | n => n, fun | n => n⟩
theorem Tryz.sortMx : Go.Proofs.SlLaysF0.n6 Tryz.prog Tryz.sortMx_ren := {
  mixed := by kernel_rfl
  f6 := ⟨Tryz.f67.name, by decide, Tryz.func67.trans (congrArg some (by kernel_rfl))⟩
  f14 := ⟨Tryz.f86.name, by decide, Tryz.func86.trans (congrArg some (by kernel_rfl))⟩
  f15 := Tryz.func87.trans (congrArg some (by kernel_rfl))
  f20 := ⟨Tryz.f96.name, by decide, Tryz.func96.trans (congrArg some (by kernel_rfl))⟩
  f21 := ⟨Tryz.f97.name, by decide, Tryz.func97.trans (congrArg some (by kernel_rfl))⟩
  f22 := ⟨Tryz.f98.name, by decide, Tryz.func98.trans (congrArg some (by kernel_rfl))⟩
  f23 := ⟨Tryz.f99.name, by decide, Tryz.func99.trans (congrArg some (by kernel_rfl))⟩
  f24 := ⟨Tryz.f100.name, by decide, Tryz.func100.trans (congrArg some (by kernel_rfl))⟩
  f25 := ⟨Tryz.f101.name, by decide, Tryz.func101.trans (congrArg some (by kernel_rfl))⟩
  f26 := ⟨Tryz.f102.name, by decide, Tryz.func102.trans (congrArg some (by kernel_rfl))⟩
  f27 := ⟨Tryz.f103.name, by decide, Tryz.func103.trans (congrArg some (by kernel_rfl))⟩
  f28 := Tryz.func104.trans (congrArg some (by kernel_rfl))
  f29 := Tryz.func105.trans (congrArg some (by kernel_rfl))
  f46 := ⟨Tryz.f112.name, by decide, Tryz.func112.trans (congrArg some (by kernel_rfl))⟩
  f47 := Tryz.func113.trans (congrArg some (by kernel_rfl))
  f48 := Tryz.func114.trans (congrArg some (by kernel_rfl))
  f49 := ⟨Tryz.f115.name, by decide, Tryz.func115.trans (congrArg some (by kernel_rfl))⟩
  f50 := ⟨Tryz.f116.name, by decide, Tryz.func116.trans (congrArg some (by kernel_rfl))⟩
  f57 := ⟨Tryz.f121.name, by decide, Tryz.func121.trans (congrArg some (by kernel_rfl))⟩
  t0 := Tryz.underlying0
  a0 := Tryz.isAgg0
  z0 := Tryz.sizeOf0
  v0 := Tryz.zeroValue0
  t3 := Tryz.underlying3
  a3 := Tryz.isAgg3
  z3 := Tryz.sizeOf3
  v3 := Tryz.zeroValue3
  t4 := Tryz.underlying4
  a4 := Tryz.isAgg4
  z4 := Tryz.sizeOf4
  v4 := Tryz.zeroValue4
  t5 := Tryz.underlying5
  a5 := Tryz.isAgg5
  z5 := Tryz.sizeOf5
  v5 := Tryz.zeroValue5
  t9 := Tryz.underlying9
  a9 := Tryz.isAgg9
  z9 := Tryz.sizeOf9
  v9 := Tryz.zeroValue9
  t22 := Tryz.underlying33
  a22 := Tryz.isAgg33
  z22 := Tryz.sizeOf33
  v22 := Tryz.zeroValue33
  t25 := Tryz.underlying88
  a25 := Tryz.isAgg88
  z25 := Tryz.sizeOf88
  v25 := Tryz.zeroValue88
  t39 := Tryz.underlying110
  a39 := Tryz.isAgg110
  z39 := Tryz.sizeOf110
  v39 := Tryz.zeroValue110
  t45 := Tryz.underlying114
  a45 := Tryz.isAgg114
  z45 := Tryz.sizeOf114
  v45 := Tryz.zeroValue114
  t46 := Tryz.underlying115
  a46 := Tryz.isAgg115
  z46 := Tryz.sizeOf115
  v46 := Tryz.zeroValue115
  t50 := Tryz.underlying119
  a50 := Tryz.isAgg119
  z50 := Tryz.sizeOf119
  v50 := Tryz.zeroValue119
  t53 := Tryz.underlying122
  a53 := Tryz.isAgg122
  z53 := Tryz.sizeOf122
  v53 := Tryz.zeroValue122
  t55 := Tryz.underlying124
  a55 := Tryz.isAgg124
  z55 := Tryz.sizeOf124
  v55 := Tryz.zeroValue124
  t66 := Tryz.underlying127
  a66 := Tryz.isAgg127
  z66 := Tryz.sizeOf127
  v66 := Tryz.zeroValue127
  t70 := Tryz.underlying131
  a70 := Tryz.isAgg131
  z70 := Tryz.sizeOf131
  v70 := Tryz.zeroValue131
  t76 := Tryz.underlying134
  a76 := Tryz.isAgg134
  z76 := Tryz.sizeOf134
  v76 := Tryz.zeroValue134
  t77 := Tryz.underlying135
  a77 := Tryz.isAgg135
  z77 := Tryz.sizeOf135
  v77 := Tryz.zeroValue135 }
def Tryz.cmpInt_ren : Go.Shelf.Ren := ⟨fun | 5 => 70 | 7 => 88 | n => n, fun | 22 => 2 | 3 => 3 | 4 => 4 | n => n, fun | n => n⟩
theorem Tryz.cmpInt : Go.Proofs.SlLaysC2.n5 Tryz.prog Tryz.cmpInt_ren := {
  mixed := by kernel_rfl
  f5 := ⟨Tryz.f70.name, by decide, Tryz.func70.trans (congrArg some (by kernel_rfl))⟩
  f7 := ⟨Tryz.f88.name, by decide, Tryz.func88.trans (congrArg some (by kernel_rfl))⟩
  t3 := Tryz.underlying3
  a3 := Tryz.isAgg3
  z3 := Tryz.sizeOf3
  v3 := Tryz.zeroValue3
  t4 := Tryz.underlying4
  a4 := Tryz.isAgg4
  z4 := Tryz.sizeOf4
  v4 := Tryz.zeroValue4
  t22 := Tryz.underlying2
  a22 := Tryz.isAgg2
  z22 := Tryz.sizeOf2
  v22 := Tryz.zeroValue2 }
end Go.Proofs
namespace Go.Proofs.YtdjghniinnfncaaGreatDoor
open Go.RowKit Go.Lib Go.Maps Go.Shelf Go.Sort
set_option maxRecDepth 20000 in
set_option maxHeartbeats 1000000 in
theorem implNaNS (x : ByteArray) (w : World) : Calls Tryz.prog 89 #[.string x] w fun e w' => e = .returned (.bool false) ∧ w = w' := by
  have u : (x.toList != x.toList) = false := by simp
  go_enter Tryz.func89, Tryz.ntmps89
  go_wp2
  go_ret
  exact ⟨rfl, rfl⟩
/-- How two texts stand to one another. -/
def Ho.cmpS (x y : ByteArray) : Int := if Op.bytesLess x.toList y.toList = true then -1 else if (x.toList == y.toList) = true then 0 else 1
set_option maxRecDepth 20000 in
set_option maxHeartbeats 1000000 in
theorem implCmpS (x y : ByteArray) (w : World) : Calls Tryz.prog 71 #[.string x, .string y] w fun e w' => e = .returned (.int .i64 (Ho.cmpS x y)) ∧ w = w' := by
  have hx := mkHid (implNaNS x w)
  have hy := mkHid (implNaNS y w)
  obtain ⟨Z, hZ⟩ : ∃ Z, Ho.cmpS x y = Z := ⟨_, rfl⟩
  rw [hZ]
  unfold Ho.cmpS at hZ
  replace hZ := mkHid hZ
  cases h1 : Op.bytesLess x.toList y.toList with
  | true =>
    have hz : Hid (-1 = Z) := by have := hZ.out; rw [if_pos h1] at this; exact this
    clear hZ
    go_enter Tryz.func71, Tryz.ntmps71
    go_wp2_with (go_at_call 89; fail)
    refine hx.out.mono ?_
    rintro e w1 ⟨rfl, rfl⟩
    go_wp2_with (go_at_call 89; fail)
    refine hy.out.mono ?_
    rintro e w1 ⟨rfl, rfl⟩
    go_wp2
    go_ret
    exact ⟨congrArg (fun z => Ending.returned (Value.int .i64 z)) hz.out, rfl⟩
  | false =>
    cases h2 : (x.toList == y.toList) with
    | true =>
      have hz : Hid (0 = Z) := by have := hZ.out; rw [if_neg (Bool.eq_false_iff.1 h1), if_pos h2] at this; exact this
      clear hZ
      go_enter Tryz.func71, Tryz.ntmps71
      go_wp2_with (go_at_call 89; fail)
      refine hx.out.mono ?_
      rintro e w1 ⟨rfl, rfl⟩
      go_wp2_with (go_at_call 89; fail)
      refine hy.out.mono ?_
      rintro e w1 ⟨rfl, rfl⟩
      go_wp2
      go_ret
      exact ⟨congrArg (fun z => Ending.returned (Value.int .i64 z)) hz.out, rfl⟩
    | false =>
      have hz : Hid (1 = Z) := by have := hZ.out; rw [if_neg (Bool.eq_false_iff.1 h1), if_neg (Bool.eq_false_iff.1 h2)] at this; exact this
      clear hZ
      go_enter Tryz.func71, Tryz.ntmps71
      go_wp2_with (go_at_call 89; fail)
      refine hx.out.mono ?_
      rintro e w1 ⟨rfl, rfl⟩
      go_wp2_with (go_at_call 89; fail)
      refine hy.out.mono ?_
      rintro e w1 ⟨rfl, rfl⟩
      go_wp2
      go_ret
      exact ⟨congrArg (fun z => Ending.returned (Value.int .i64 z)) hz.out, rfl⟩
set_option maxRecDepth 20000 in
set_option maxHeartbeats 1000000 in
theorem implOr (a b : Int) (B : Nat) (w : World) (h0 : w.cell? ⟨B, 0, none⟩ = some (.int .i64 a)) (h1 : w.cell? ⟨B, 1, none⟩ = some (.int .i64 b)) :
    Calls Tryz.prog 69 #[.slice (some ⟨B, 0, none⟩) 2 2] w fun e w' => e = .returned (.int .i64 (if (a != 0) = true then a else b)) ∧ w = w' := by
  obtain ⟨Z, hZ⟩ : ∃ Z, (if (a != 0) = true then a else b) = Z := ⟨_, rfl⟩
  rw [hZ]
  replace hZ := mkHid hZ
  go_enter Tryz.func69, Tryz.ntmps69
  go_wp2
  go_loopw [8] (fun iv wr => ∃ i : Nat, i ≤ 2 ∧ iv = .int .i64 i ∧ wr = w ∧ (0 < i → (a != 0) = false) ∧ (1 < i → (b != 0) = false)) (fun iv _ => 2 - (Lib.intOf iv).toNat)
  case atStart => exact ⟨0, by omega, rfl, rfl, fun h => absurd h (by omega), fun h => absurd h (by omega)⟩
  case round =>
    obtain ⟨i, hi, rfl, hwr, k0, k1⟩ := hrel
    subst hwr
    rcases (show i = 0 ∨ i = 1 ∨ i = 2 by omega) with rfl | rfl | rfl
    · cases ha : (a != 0) with
      | true =>
        have hz : Hid (a = Z) := by have := hZ.out; rw [if_pos ha] at this; exact this
        clear hZ k0 k1
        go_wp2
        go_ret
        exact ⟨congrArg (fun z => Ending.returned (Value.int .i64 z)) hz.out, rfl⟩
      | false =>
        clear hZ k0 k1
        go_wp2
        go_roundw
        case rel => exact ⟨1, by omega, by go_num, by first | rfl | trivial, fun _ => by first | exact ha | trivial, fun h => absurd h (by omega)⟩
        case measure => simp [Lib.intOf]
    · have ha := k0 (by omega)
      cases hb : (b != 0) with
      | true =>
        have hz : Hid (b = Z) := by have := hZ.out; rw [if_neg (Bool.eq_false_iff.1 ha)] at this; exact this
        clear hZ k0 k1 ha
        go_wp2
        go_ret
        exact ⟨congrArg (fun z => Ending.returned (Value.int .i64 z)) hz.out, rfl⟩
      | false =>
        clear hZ k0 k1
        go_wp2
        go_roundw
        case rel => exact ⟨2, by omega, by go_num, by first | rfl | trivial, fun _ => by first | exact ha | trivial, fun _ => by first | exact hb | trivial⟩
        case measure => simp [Lib.intOf]
    · have ha := k0 (by omega)
      have hb := k1 (by omega)
      have hz : Hid (0 = Z) := by
        have := hZ.out
        rw [if_neg (Bool.eq_false_iff.1 ha)] at this
        have e : b = 0 := by simpa using hb
        rw [e] at this
        exact this
      clear hZ k0 k1 ha hb
      go_wp2
      go_ret
      exact ⟨congrArg (fun z => Ending.returned (Value.int .i64 z)) hz.out, rfl⟩
def Ho.cf (a b : GMx) : Int := if (Lib.compareInt a.prefer b.prefer != 0) = true then Lib.compareInt a.prefer b.prefer else Ho.cmpS a.host b.host
set_option maxRecDepth 20000 in
set_option maxHeartbeats 2000000 in
theorem implPref (x y : GMx) (W : World) : Calls Tryz.prog 49 #[.agg #[.string x.domain, .int .i64 x.prefer, .string x.host], .agg #[.string y.domain, .int .i64 y.prefer, .string y.host]] W fun e w' => e = .returned (.int .i64 (Ho.cf x y)) ∧ ∃ q os', w' = grow (W.drewN q) os' := by
  have hI := mkHid (fun W' => AnyG.cmp_Compare_int Tryz.cmpInt x.prefer y.prefer W')
  have hT := mkHid (fun W' => implCmpS x.host y.host W')
  change Hid (∀ W', Calls Tryz.prog 70 _ _ _) at hI
  obtain ⟨Z, hZ⟩ : ∃ Z, Ho.cf x y = Z := ⟨_, rfl⟩
  rw [hZ]
  unfold Ho.cf at hZ
  obtain ⟨a, ha⟩ : ∃ a, Lib.compareInt x.prefer y.prefer = a := ⟨_, rfl⟩
  obtain ⟨b, hb⟩ : ∃ b, Ho.cmpS x.host y.host = b := ⟨_, rfl⟩
  rw [ha] at hI hZ
  rw [hb] at hT hZ
  replace hZ := mkHid hZ
  clear ha hb
  obtain ⟨V, hV⟩ : ∃ V, (W.alloc (.cells #[.string x.domain, .int .i64 x.prefer, .string x.host] 58)).alloc (.cells #[.string y.domain, .int .i64 y.prefer, .string y.host] 58) = V := ⟨_, rfl⟩
  have hp : V.heap[W.heap.size]? = some (.cells #[.string x.domain, .int .i64 x.prefer, .string x.host] 58 (0, 0)) := by rw [← hV]; exact (Below.heap_alloc _ _ _ (by simp)).trans (World.alloc_heap_new W _)
  have hq : V.heap[W.heap.size + 1]? = some (.cells #[.string y.domain, .int .i64 y.prefer, .string y.host] 58 (0, 0)) := by
    rw [← hV]
    have := World.alloc_heap_new (W.alloc (.cells #[.string x.domain, .int .i64 x.prefer, .string x.host] 58)) (.cells #[.string y.domain, .int .i64 y.prefer, .string y.host] 58)
    rwa [World.size_alloc] at this
  have hgV : Hid (∃ os', V = grow W os') := ⟨_, by rw [← hV, alloc_eq_grow, alloc_eq_grow, grow_grow]⟩
  obtain ⟨p, hpe⟩ : ∃ p, W.heap.size = p := ⟨_, rfl⟩
  rw [hpe] at hp hq
  have hS : V.drew.cell? ⟨p, 1, none⟩ = some (.int .i64 x.prefer) ∧ V.drew.cell? ⟨p + 1, 1, none⟩ = some (.int .i64 y.prefer) ∧ V.drew.cell? ⟨p, 2, none⟩ = some (.string x.host) ∧ V.drew.cell? ⟨p + 1, 2, none⟩ = some (.string y.host) := ⟨show V.cell? _ = _ by simp [World.cell?, hp], show V.cell? _ = _ by simp [World.cell?, hq], show V.cell? _ = _ by simp [World.cell?, hp], show V.cell? _ = _ by simp [World.cell?, hq]⟩
  have HV := mkHid hV
  have Hp := mkHid hpe
  clear hV hpe hp hq
  go_enter Tryz.func49, Tryz.ntmps49
  go_wp2
  rw [HV.out, Hp.out]
  clear HV
  refine wp_region_held (S := fun w => w.cell? ⟨p, 1, none⟩ = some (.int .i64 x.prefer) ∧ w.cell? ⟨p + 1, 1, none⟩ = some (.int .i64 y.prefer) ∧ w.cell? ⟨p, 2, none⟩ = some (.string x.host) ∧ w.cell? ⟨p + 1, 2, none⟩ = some (.string y.host)) (by kernel_rfl) ?_
  refine wpAnyH_take (i := 0) (v := .pointer (some ⟨p, 1, none⟩)) rfl (by kernel_rfl) (by kernel_rfl) (by kernel_rfl) (fun _ _ _ h => h) (Or.inl ⟨by rfl, ?_⟩) hS ?_
  · rintro w ⟨s1, s2, s3, s4⟩
    go_simp
    all_goals first | done | (intro h; exfalso; omega) | omega
  go_simp
  refine wpAnyH_take (i := 1) (v := .int .i64 x.prefer) rfl (by kernel_rfl) (by kernel_rfl) (by kernel_rfl) (fun _ _ _ h => h) (Or.inl ⟨by rfl, ?_⟩) hS ?_
  · rintro w ⟨s1, s2, s3, s4⟩
    go_simp
    all_goals first | done | (intro h; exfalso; omega) | omega
  go_simp
  refine wpAnyH_take (i := 2) (v := .pointer (some ⟨p + 1, 1, none⟩)) rfl (by kernel_rfl) (by kernel_rfl) (by kernel_rfl) (fun _ _ _ h => h) (Or.inl ⟨by rfl, ?_⟩) hS ?_
  · rintro w ⟨s1, s2, s3, s4⟩
    go_simp
    all_goals first | done | (intro h; exfalso; omega) | omega
  go_simp
  refine wpAnyH_take (i := 3) (v := .int .i64 y.prefer) rfl (by kernel_rfl) (by kernel_rfl) (by kernel_rfl) (fun _ _ _ h => h) (Or.inl ⟨by rfl, ?_⟩) hS ?_
  · rintro w ⟨s1, s2, s3, s4⟩
    go_simp
    all_goals first | done | (intro h; exfalso; omega) | omega
  go_simp
  refine wpAnyH_take (i := 5) (v := .pointer (some ⟨p, 2, none⟩)) rfl (by kernel_rfl) (by kernel_rfl) (by kernel_rfl) (fun _ _ _ h => h) (Or.inl ⟨by rfl, ?_⟩) hS ?_
  · rintro w ⟨s1, s2, s3, s4⟩
    go_simp
    all_goals first | done | (intro h; exfalso; omega) | omega
  go_simp
  refine wpAnyH_take (i := 6) (v := .string x.host) rfl (by kernel_rfl) (by kernel_rfl) (by kernel_rfl) (fun _ _ _ h => h) (Or.inl ⟨by rfl, ?_⟩) hS ?_
  · rintro w ⟨s1, s2, s3, s4⟩
    go_simp
    all_goals first | done | (intro h; exfalso; omega) | omega
  go_simp
  refine wpAnyH_take (i := 7) (v := .pointer (some ⟨p + 1, 2, none⟩)) rfl (by kernel_rfl) (by kernel_rfl) (by kernel_rfl) (fun _ _ _ h => h) (Or.inl ⟨by rfl, ?_⟩) hS ?_
  · rintro w ⟨s1, s2, s3, s4⟩
    go_simp
    all_goals first | done | (intro h; exfalso; omega) | omega
  go_simp
  refine wpAnyH_take (i := 8) (v := .string y.host) rfl (by kernel_rfl) (by kernel_rfl) (by kernel_rfl) (fun _ _ _ h => h) (Or.inl ⟨by rfl, ?_⟩) hS ?_
  · rintro w ⟨s1, s2, s3, s4⟩
    go_simp
    all_goals first | done | (intro h; exfalso; omega) | omega
  go_simp
  refine wpAnyH_all (rs := [4]) (by kernel_rfl) (by simp) ?_
  intro j hj
  simp only [List.mem_cons, List.not_mem_nil, or_false] at hj
  subst hj
  refine wpOp_step rfl (fun K hK => ?_)
  go_simp
  refine (hI.out _).mono ?_
  rintro e w1 ⟨rfl, hw1⟩
  subst hw1
  refine hK _ _ ⟨hS, ?_⟩
  clear hK K
  go_simp
  refine wpAnyH_all (rs := [9]) (by kernel_rfl) (by simp) ?_
  intro j hj
  simp only [List.mem_cons, List.not_mem_nil, or_false] at hj
  subst hj
  refine wpOp_step rfl (fun K hK => ?_)
  go_simp
  refine (hT.out _).mono ?_
  rintro e w1 ⟨rfl, rfl⟩
  refine hK _ _ ⟨hS, ?_⟩
  clear hK K
  go_simp
  refine wpAnyH_all (rs := [10]) (by kernel_rfl) (by simp) ?_
  intro j hj
  simp only [List.mem_cons, List.not_mem_nil, or_false] at hj
  subst hj
  refine wpOp_step rfl (fun K hK => ?_)
  go_simp
  obtain ⟨U, hU⟩ : ∃ U, V.alloc (.cells #[.int .i64 a, .int .i64 b] 3) = U := ⟨_, rfl⟩
  have bU : Below V.heap.size V U := by rw [← hU]; exact (Below.refl _ _).alloc (Nat.le_refl _) _
  have kc : ∀ (c : Addr) (z : Value), V.cell? c = some z → U.cell? c = some z := fun c z h => (World.cell?_of_block (bU.block _ (World.block_lt_of_cell? _ _ h))).trans h
  have hS2 : U.drew.cell? ⟨p, 1, none⟩ = some (.int .i64 x.prefer) ∧ U.drew.cell? ⟨p + 1, 1, none⟩ = some (.int .i64 y.prefer) ∧ U.drew.cell? ⟨p, 2, none⟩ = some (.string x.host) ∧ U.drew.cell? ⟨p + 1, 2, none⟩ = some (.string y.host) := ⟨kc _ _ hS.1, kc _ _ hS.2.1, kc _ _ hS.2.2.1, kc _ _ hS.2.2.2⟩
  have hn : U.heap[V.heap.size]? = some (.cells #[.int .i64 a, .int .i64 b] 3 (0, 0)) := by rw [← hU]; exact World.alloc_heap_new V _
  obtain ⟨B, hB⟩ : ∃ B, V.heap.size = B := ⟨_, rfl⟩
  rw [hB] at hn
  have kO := mkHid (implOr a b B U.drew (show U.cell? _ = _ by simp [World.cell?, hn]) (show U.cell? _ = _ by simp [World.cell?, hn]))
  rw [hZ.out] at kO
  have hgU : Hid (∃ os', U.drew = grow (W.drewN 1) os') := by
    obtain ⟨os', e⟩ := hgV.out
    refine ⟨os' ++ #[.cells #[.int .i64 a, .int .i64 b] 3], ?_⟩
    rw [← hU, e, alloc_eq_grow, grow_grow]
    rfl
  rw [hU, hB]
  refine hK _ _ ⟨hS2, ?_⟩
  clear hK K hU hB bU kc hn hS
  go_simp
  refine wpAnyH_all (rs := [11]) (by kernel_rfl) (by simp) ?_
  intro j hj
  simp only [List.mem_cons, List.not_mem_nil, or_false] at hj
  subst hj
  refine wpOp_step rfl (fun K hK => ?_)
  go_simp
  refine kO.out.mono ?_
  rintro e w1 ⟨rfl, rfl⟩
  refine hK _ _ ⟨hS2, ?_⟩
  clear hK K
  go_simp
  refine wpAnyH_take (i := 12) (v := .int .i64 Z) rfl (by kernel_rfl) (by kernel_rfl) (by kernel_rfl) (fun _ _ _ h => h) (Or.inl ⟨by rfl, ?_⟩) hS2 ?_
  · rintro w ⟨s1, s2, s3, s4⟩
    go_simp
    all_goals first | done | (intro h; exfalso; omega) | omega
  go_simp
  refine wpAnyH_done (by kernel_rfl) ?_ _
  go_wp2
  go_ret
  obtain ⟨os', e⟩ := hgU.out
  exact ⟨rfl, 1, os', e⟩
end Go.Proofs.YtdjghniinnfncaaGreatDoor
namespace Go.Proofs.YtdjghniinnfncaaGreatDoor
open Go.RowKit Go.Lib Go.Maps Go.Shelf Go.Sort
instance : Inhabited GMx := ⟨⟨.empty, 0, .empty⟩⟩
set_option maxRecDepth 20000 in
theorem Ho.cmpS_neg (x y : ByteArray) : decide (Ho.cmpS x y < 0) = decide (x.data.toList < y.data.toList) := by
  unfold Ho.cmpS
  rw [bytesLess_eq, ByteArray.toList_eq, ByteArray.toList_eq]
  by_cases h : x.data.toList < y.data.toList
  · simp [h]
  · by_cases h2 : (x.data.toList == y.data.toList) = true <;> simp [h, h2]
set_option maxRecDepth 20000 in
theorem Ho.ltOf_le (a b : GMx) : ltOf Ho.cf a b = !(Ho.le b a) := by
  have hs := Ho.cmpS_neg a.host b.host
  unfold ltOf Ho.le Ho.leK Ho.key Ho.cf Lib.compareInt
  rcases Int.lt_trichotomy a.prefer b.prefer with h | h | h
  · have h1 : ¬ b.prefer < a.prefer := by omega
    have h2 : ¬ b.prefer = a.prefer := by omega
    simp [h, h1, h2]
  · simp [h, hs]
  · have h1 : ¬ a.prefer < b.prefer := by omega
    simp [h, h1]
set_option maxRecDepth 20000 in
theorem Ho.le_refl (a : GMx) : Ho.le a a = true := by
  cases h : Ho.le a a with
  | true => rfl
  | false => exact (h.symm.trans (Ho.leK_total _ _ h))
set_option maxRecDepth 20000 in
theorem Ho.swo : SWO (ltOf Ho.cf) where
  irrefl x := by rw [Ho.ltOf_le, Ho.le_refl]; rfl
  trans x y z h1 h2 := by
    rw [Ho.ltOf_le] at *
    simp only [Bool.not_eq_true'] at *
    cases h : Ho.le z x with
    | false => rfl
    | true => exact absurd (Ho.leK_trans _ _ _ h (Ho.leK_total _ _ h1)) (by rw [show Ho.leK (Ho.key z) (Ho.key y) = false from h2]; exact Bool.false_ne_true)
  ntrans x y z h1 h2 := by
    rw [Ho.ltOf_le] at *
    simp only [Bool.not_eq_false'] at *
    exact Ho.leK_trans _ _ _ h2 h1
set_option maxRecDepth 20000 in
theorem Ho.up_of (d : Array GMx) (h : SortedIn (ltOf Ho.cf) 0 d.size d) : Ho.Up d.toList := by
  unfold Ho.Up
  rw [List.pairwise_iff_getElem]
  intro i j hi hj hij
  have := h i j (Nat.zero_le _) hij (by simpa using hj)
  rw [Ho.ltOf_le, Bool.not_eq_false', getElem!_pos d j (by simpa using hj), getElem!_pos d i (by simpa using hi)] at this
  simpa using this
set_option maxRecDepth 20000 in
theorem Ho.perm_of (d d' : Array GMx) (h : PermIn 0 d.size d d') : d'.toList.Perm d.toList := by
  have h3 := h.2.2
  have e : d'.size = d.size := h.1
  rw [Array.extract_size] at h3
  rw [show d'.extract 0 d.size = d' by rw [← e, Array.extract_size]] at h3
  exact h3
set_option maxRecDepth 20000 in
theorem Ho.cmpLays (blk off size : Nat) (w : World) : CmpLays Tryz.prog 49 #[] mxC 3 Ho.cf blk off size w := by
  intro m os dk _ x y
  exact implPref x y _
set_option maxRecDepth 20000 in
theorem mxCells_at (L : List GMx) : ∀ (i c : Nat) (h : i < L.length), c < 3 → (mxCells L)[i * 3 + c]? = (mxC L[i])[c]? := by
  induction L with
  | nil => intro i c h; simp at h
  | cons m r ih =>
    intro i c h hc
    have e : mxCells (m :: r) = mxC m ++ mxCells r := rfl
    rw [e]
    cases i with
    | zero => rw [List.getElem?_append_left (by simp [mxC]; omega)]; simp
    | succ i =>
      rw [List.getElem?_append_right (by simp [mxC]; omega)]
      have := ih i c (by simpa using h) hc
      rw [show (i + 1) * 3 + c - (mxC m).length = i * 3 + c by simp [mxC]; omega, this]
      rfl
set_option maxRecDepth 20000 in
theorem Ho.holds_of {w : World} {B g cap : Nat} {T : List GMx} (h : OwnM B (.slice (some ⟨g, 0, none⟩) T.length cap) T w) : HoldsK mxC 3 w g 0 T.toArray ∧ g < w.heap.size ∧ B ≤ g := by
  have h' := h
  rcases h.2 with ⟨h0, _⟩ | ⟨g', cap', cur, hv, hg, hb, _⟩
  · cases h0
  cases hv
  refine ⟨?_, (Array.getElem?_eq_some_iff.1 hb).1, hg⟩
  intro j hj
  have hj3 : j < T.length * 3 := by simpa using hj
  refine ⟨?_, by simp [World.frozen?, hb]⟩
  rw [Nat.zero_add, World.ownsRow.cellAt h' j hj3, get_flatK _ _ _ _ (by simpa using hj3)]
  have hd : j / 3 < T.length := by omega
  have hm : j % 3 < 3 := Nat.mod_lt _ (by decide)
  have e := mxCells_at T (j / 3) (j % 3) hd hm
  rw [show j / 3 * 3 + j % 3 = j by omega] at e
  rw [e]
  rw [getElem!_pos T.toArray (j / 3) (by simpa using hd)]
  rw [List.getElem?_eq_getElem (by simpa [mxC] using hm)]
  rw [getElem!_pos _ _ (by simpa [mxC] using hm)]
  simp
set_option maxRecDepth 20000 in
/-- What was there before, is as it was; the rows, in order, stand where they stood. -/
theorem Ho.sorted_world {w : World} {g n : Nat} {os : Array Obj} {T : List GMx} {d' : Array GMx} (hH : HoldsK mxC 3 w g 0 T.toArray) (hg : g < w.heap.size) (hs : d'.size = T.length) :
    GMxsL g (g + 1) (sortWorldK mxC 3 w g 0 n d' os) (some ⟨g, 0, none⟩) d'.toList ∧ Below g w (sortWorldK mxC 3 w g 0 n d' os) ∧ w.grownBy (sortWorldK mxC 3 w g 0 n d' os) (some g) := by
  have h1 := holdsK_sortWorldK_c mxC 3 w g 0 T.toArray d' n os hH hg (by simpa using hs)
  have hgb : w.grownBy (sortWorldK mxC 3 w g 0 n d' os) (some g) := by
    refine ⟨rfl, rfl, rfl, size_sortWorldK_c mxC 3 w g 0 n d' os, fun k hk hne => ?_⟩
    have : g ≠ k := fun e => hne (by rw [e])
    unfold sortWorldK putRowK
    rw [heap_grow_old _ _ (by simpa using hk)]
    simp [putRow, mapBlock, Sort.ahead, Array.getElem?_modify, this]
  refine ⟨?_, ⟨hgb.os, hgb.tape, hgb.output, hgb.size, fun k hk => hgb.block k (by omega) (by intro e; cases e; omega)⟩, hgb⟩
  intro i hi
  have hi' : i < d'.size := by simpa using hi
  refine ⟨_, rfl, Nat.le_refl _, Nat.lt_succ_self _, ?_⟩
  have c := HoldsK.cells h1 (fun _ => rfl) hi'
  rw [getElem!_pos d' i hi'] at c
  have c0 := c 0 _ rfl
  have c1 := c 1 _ rfl
  have c2 := c 2 _ rfl
  simp only [Addr.add_lit, Nat.zero_add, Nat.add_zero] at c0 c1 c2
  have e : ((⟨g, 0, none⟩ : Addr).add (i * 3)) = ⟨g, i * 3, none⟩ := by rw [Addr.add_lit, Nat.zero_add]
  rw [e]
  exact ⟨by simpa using c0, by simpa using c1, by simpa using c2⟩
set_option maxRecDepth 20000 in
set_option maxHeartbeats 1000000 in
theorem mxSort {B : Nat} {v : Value} {T : List GMx} {w : World} (hT : T.length ≤ 1000) (hne : T ≠ []) (h : OwnM B v T w) :
    Calls Tryz.prog 67 #[v, .func (.func 49) #[] #[]] w fun e w' => e = .returned (.tuple #[]) ∧ ∃ g cap D, v = .slice (some ⟨g, 0, none⟩) T.length cap ∧ B ≤ g ∧ g < w.heap.size ∧ D.Perm T ∧ Ho.Up D ∧ GMxsL g (g + 1) w' (some ⟨g, 0, none⟩) D ∧ Below g w w' := by
  have eg : ∀ args w, (callFunc 49 args).run Tryz.prog w = .ok (.enter 49 args) w := enters_of Tryz.func49 (by kernel_rfl) rfl
  rcases h.2 with ⟨_, h0⟩ | ⟨g, cap, cur, hv, hg, hb, _⟩
  · exact absurd (List.length_eq_zero_iff.1 h0) hne
  subst hv
  obtain ⟨hH, hgs, hB⟩ := Ho.holds_of h
  have hcon := AnyQ.slices_SortFunc Tryz.sortMx 3 Tryz.isAgg58 Tryz.sizeOf58 mxC (fun _ => rfl) (fun x v hv => by simp [mxC] at hv; rcases hv with rfl | rfl | rfl <;> rfl) Ho.cf Ho.swo 49 #[] g 0 cap T.toArray w eg (Ho.cmpLays g 0 _ w) hH hgs (by simp; omega)
  change Calls Tryz.prog 67 _ _ _ at hcon
  rw [List.size_toArray] at hcon
  refine hcon.mono ?_
  rintro e w' ⟨rfl, d', n, os, hp, hs, rfl⟩
  have hz : d'.size = T.length := by have := hp.1; simpa using this
  obtain ⟨k1, k2, _⟩ := Ho.sorted_world (n := n) (os := os) hH hgs hz
  have hp' := Ho.perm_of T.toArray d' (by simpa using hp)
  exact ⟨rfl, g, cap, d'.toList, rfl, hB, hgs, by simpa using hp', Ho.up_of d' (by rw [hz]; exact hs), k1, k2⟩
end Go.Proofs.YtdjghniinnfncaaGreatDoor
namespace Go.Proofs.YtdjghniinnfncaaGreatDoor
open Go.RowKit Go.Lib Go.Maps Go.Shelf Go.Sort
set_option maxRecDepth 20000 in
theorem mxSortNone (w : World) : Calls Tryz.prog 67 #[.slice none 0 0, .func (.func 49) #[] #[]] w fun e w' => e = .returned (.tuple #[]) ∧ w' = w :=
  AnyF.slices_SortFunc_none Tryz.sortMx none 0 _ w
set_option maxRecDepth 20000 in
theorem mxValues (v : Value) (w : World) (hv : v.oneCell' = true) : Calls Tryz.prog 48 #[v] w fun e w' => e = .returned (.func (.func 68) #[] #[.pointer (some ⟨w.heap.size, 0, none⟩)]) ∧ w' = w.alloc (.cells #[v] 33) := by
  go_enter Tryz.func48, Tryz.ntmps48
  go_wp2
  go_ret
  exact ⟨rfl, rfl⟩
set_option maxRecDepth 20000 in
set_option maxHeartbeats 2000000 in
theorem mxSorted (Bt lo hi : Nat) (o : Option Addr) (cap : Nat) (T : List GMx) (hT : T.length ≤ 1000) (w : World) (hBt : w.cell? ⟨Bt, 0, none⟩ = some (.slice o T.length cap)) (hc : GMxsL lo hi w o T) (hhi : hi ≤ w.heap.size) :
    Calls Tryz.prog 47 #[.func (.func 68) #[] #[.pointer (some ⟨Bt, 0, none⟩)], .func (.func 49) #[] #[]] w fun e w' => ∃ o' cap' D, e = .returned (.slice o' T.length cap') ∧ D.Perm T ∧ Ho.Up D ∧ GMxsL w.heap.size w'.heap.size w' o' D ∧ Below w.heap.size w w' := by
  have hC := mxCollect Bt lo hi o cap T hT w hBt hc hhi
  clear hBt hc
  go_enter Tryz.func47, Tryz.ntmps47
  go_wp2_with (go_at_call 66; fail)
  refine hC.mono ?_
  rintro e w1 ⟨v, rfl, hO, hn, hb⟩
  clear hC
  by_cases he : T = []
  · have hv := hn.2 he
    have hS := mxSortNone w1
    clear hO hn
    subst hv
    go_wp2_with (go_at_call 67; refine hS.mono ?_; rintro e w2 ⟨rfl, rfl⟩)
    go_ret
    subst he
    exact ⟨none, 0, [], rfl, List.Perm.nil, List.Pairwise.nil, fun i h => absurd h (by simp), hb⟩
  · have hS := mxSort hT he hO
    clear hO hn
    go_wp2_with (go_at_call 67; fail)
    refine hS.mono ?_
    rintro e w2 ⟨rfl, g, c, D, rfl, hB, hg, hp, hu, hl, hb2⟩
    clear hS
    have hf := mkHid (And.intro hp (And.intro hu (And.intro hl (And.intro hb2 (And.intro hB hg)))))
    clear hp hu hl hb2 hB hg
    go_wp2
    go_ret
    obtain ⟨hp, hu, hl, hb2, hB, hg⟩ := hf.out
    exact ⟨some ⟨g, 0, none⟩, c, D, rfl, hp, hu, hl.mono hB (by have := hb2.size; omega), hb.trans (hb2.mono hB)⟩
end Go.Proofs.YtdjghniinnfncaaGreatDoor
