
/- The last field of a name, the program's side. -/

/- The last one that is meant of those not taken yet: marks against a list that is cut. Laws of no program. -/
import Derived.Test.YtgabjiamabbheaaGreatDoorWriteHead
import Derived.Test.YtgabjiamabbheaaGreatDoorLow
import Derived.Lib.QuietBelow
import Derived.Deep.QuietTactic
import Derived.BigQuiet
namespace Go.Proofs.YtgabjiamabbheaaGreatDoor
open Go.RowKit Go.Lib
def namedB (n m : ByteArray) : Bool := lower n.data.toList == lower m.data.toList
set_option maxRecDepth 10000 in
set_option maxHeartbeats 1000000 in
theorem implNamed (n v m : ByteArray) (w : World) (hn : n.size ≤ 100000) (hm : m.size ≤ 100000) :
    Calls Tryz.prog 92 #[.agg #[.string n, .string v], .string m] w fun e w' => e = .returned (.bool (namedB n m)) ∧ Below w.heap.size w w' := by
  have hA := fun w => implLowered n w hn
  have hB := fun w => implLowered m w hm
  obtain ⟨W, hW⟩ : ∃ W, W = w.alloc (.cells #[.string n, .string v] 51) := ⟨_, rfl⟩
  have hbW : Below w.heap.size w W := by rw [hW]; exact (Below.refl _ _).alloc (Nat.le_refl _) _
  have q0 : W.cell? ⟨w.heap.size, 0, none⟩ = some (.string n) := by rw [hW]; simp
  have k0 := cell_regrown q0
  have HE : Hid (namedB n m = ((⟨(lower n.data.toList).toArray⟩ : ByteArray).data.toList == (⟨(lower m.data.toList).toArray⟩ : ByteArray).data.toList)) := rfl
  generalize (⟨(lower n.data.toList).toArray⟩ : ByteArray) = ta at *
  generalize (⟨(lower m.data.toList).toArray⟩ : ByteArray) = tb at *
  have HA := (show Hid _ from hA)
  have HB := (show Hid _ from hB)
  clear hA hB k0
  go_enter Tryz.func92, Tryz.ntmps92
  go_wp2_with fail
  rw [← hW]
  refine (HA.out _).mono ?_
  rintro e w1 ⟨rfl, hb1⟩
  go_wp2_with fail
  refine (HB.out _).mono ?_
  rintro e w2 ⟨rfl, hb2⟩
  have hbq := hbW.trans ((hb1.trans (hb2.mono hb1.size)).mono hbW.size)
  clear hW
  go_wp2
  go_ret
  rw [HE.out, ← ByteArray.toList_eq, ← ByteArray.toList_eq]
  exact ⟨rfl, hbq⟩
/-- The last place below k that is meant. -/
def lastTo (p : Nat → Bool) : Nat → Option Nat
  | 0 => none
  | k + 1 => if p k then some k else lastTo p k
def atV : Option Nat → Int
  | none => -1
  | some k => k
def nmAt (F : List Fd) (m : ByteArray) (i : Nat) : Bool := if h : i < F.length then namedB F[i].1 m else false
set_option maxRecDepth 10000 in
set_option maxHeartbeats 2000000 in
theorem implLast (o : Option Addr) (F : List Fd) (cap : Nat) (m : ByteArray) (w : World) (hF : Fld w.heap.size w o F) (hlen : F.length ≤ 1048576) (hsz : ∀ f ∈ F, f.1.size ≤ 100000) (hm : m.size ≤ 100000) :
    Calls Tryz.prog 65 #[.slice o F.length cap, .string m] w fun e w' => e = .returned (.int .i64 (atV (lastTo (nmAt F m) F.length))) ∧ Below w.heap.size w w' := by
  have HF : Hid (Fld w.heap.size w o F) := hF
  have Hsz : Hid (∀ f ∈ F, f.1.size ≤ 100000) := hsz
  clear hF hsz
  obtain ⟨R, hR⟩ : ∃ R, R = atV (lastTo (nmAt F m) F.length) := ⟨_, rfl⟩
  rw [← hR]
  have HR : Hid (R = atV (lastTo (nmAt F m) F.length)) := hR
  clear hR
  go_enter Tryz.func65, Tryz.ntmps65
  go_wp2
  go_loopw [5] (fun i wr => ∃ k : Nat, k ≤ F.length ∧ i = .int .i64 ((k : Int) - 1) ∧ Hid (R = atV (lastTo (nmAt F m) k)) ∧ Below w.heap.size w wr) (fun i _ => (Lib.intOf i + 1).toNat)
  case atStart => exact ⟨F.length, Nat.le_refl _, by go_num, HR, Below.refl _ _⟩
  case round =>
    obtain ⟨k, hk, rfl, HA, hbr⟩ := hrel
    cases k with
    | zero =>
      have hv : R = -1 := HA.out
      subst hv
      go_wp2
      go_ret
      exact ⟨rfl, hbr⟩
    | succ k =>
      have hkl : k < F.length := by omega
      obtain ⟨a, rfl, ha, hc0, hc1⟩ := ((HF.out).below hbr) k hkl
      have hfs := Hsz.out F[k] (List.getElem_mem hkl)
      have hN := fun v w => implNamed F[k].1 v m w hfs hm
      have HX : Hid (lastTo (nmAt F m) (k + 1) = if namedB F[k].1 m then some k else lastTo (nmAt F m) k) := by
        show _ = _
        rw [lastTo, nmAt, dif_pos hkl]
      have HN := (show Hid _ from hN)
      clear hN
      generalize F[k].1 = f at *
      have e1 : ((k + 1 : Nat) : Int) - 1 = (k : Int) := by omega
      rw [e1]
      cases hb : namedB f m
      · have HA2 : Hid (R = atV (lastTo (nmAt F m) k)) := by
          show _ = _
          rw [HA.out, HX.out, hb]
          rfl
        rw [hb] at HN
        clear HX HA hb
        go_wp2_with fail
        refine (HN.out _ _).mono ?_
        rintro e w1 ⟨rfl, hb1⟩
        have hbq := hbr.trans (hb1.mono hbr.size)
        go_wp2
        go_roundw
        case rel => exact ⟨k, by omega, by go_num, HA2, hbq⟩
        case measure => simp [Lib.intOf]
      · have hv : R = (k : Int) := by
          rw [HA.out, HX.out, hb]
          rfl
        rw [hb] at HN
        clear HX HA hb HR
        subst hv
        go_wp2_with fail
        refine (HN.out _ _).mono ?_
        rintro e w1 ⟨rfl, hb1⟩
        have hbq := hbr.trans (hb1.mono hbr.size)
        go_wp2
        go_ret
        exact ⟨rfl, hbq⟩
end Go.Proofs.YtgabjiamabbheaaGreatDoor
namespace Go.Proofs.YtgabjiamabbheaaGreatDoor
set_option maxRecDepth 20000 in
theorem lastTo_congr {p q : Nat → Bool} : ∀ n, (∀ i, i < n → p i = q i) → lastTo p n = lastTo q n
  | 0, _ => rfl
  | n + 1, h => by
    rw [lastTo, lastTo, h n (Nat.lt_succ_self n), lastTo_congr n fun i hi => h i (Nat.lt_succ_of_lt hi)]
set_option maxRecDepth 20000 in
theorem lastTo_lt {p : Nat → Bool} : ∀ n k, lastTo p n = some k → k < n
  | 0, k, h => by cases h
  | n + 1, k, h => by
    rw [lastTo] at h
    split at h
    · cases h; exact Nat.lt_succ_self _
    · exact Nat.lt_succ_of_lt (lastTo_lt n k h)
set_option maxRecDepth 20000 in
theorem snoc_ind {α : Type} {motive : List α → Prop} (h0 : motive []) (h1 : ∀ l a, motive l → motive (l ++ [a])) (l : List α) : motive l := by
  have : ∀ r : List α, motive r.reverse := by
    intro r
    induction r with
    | nil => exact h0
    | cons a r ih => rw [List.reverse_cons]; exact h1 _ _ ih
  have := this l.reverse
  rwa [List.reverse_reverse] at this
def keep {α : Type} (Z : List (α × Bool)) : List α := (Z.filter fun q => !q.2).map (·.1)
def mtAt {α : Type} (p : α → Bool) (L : List α) (i : Nat) : Bool := (L[i]?.map p).getD false
def unAt {α : Type} (p : α → Bool) (Z : List (α × Bool)) (i : Nat) : Bool := (Z[i]?.map fun q => !q.2 && p q.1).getD false
set_option maxRecDepth 20000 in
theorem keep_snoc {α : Type} (Z : List (α × Bool)) (f : α) (t : Bool) : keep (Z ++ [(f, t)]) = if t then keep Z else keep Z ++ [f] := by
  unfold keep
  cases t <;> simp
set_option maxRecDepth 20000 in
theorem mt_snoc {α : Type} (p : α → Bool) (L : List α) (f : α) : lastTo (mtAt p (L ++ [f])) (L ++ [f]).length = if p f then some L.length else lastTo (mtAt p L) L.length := by
  rw [List.length_append, List.length_singleton, lastTo]
  have e : mtAt p (L ++ [f]) L.length = p f := by simp [mtAt]
  rw [e]
  congr 1
  exact lastTo_congr _ fun i hi => by simp [mtAt, List.getElem?_append_left hi]
set_option maxRecDepth 20000 in
theorem un_snoc {α : Type} (p : α → Bool) (Z : List (α × Bool)) (f : α) (t : Bool) : lastTo (unAt p (Z ++ [(f, t)])) (Z ++ [(f, t)]).length = if !t && p f then some Z.length else lastTo (unAt p Z) Z.length := by
  rw [List.length_append, List.length_singleton, lastTo]
  have e : unAt p (Z ++ [(f, t)]) Z.length = (!t && p f) := by simp [unAt]
  rw [e]
  congr 1
  exact lastTo_congr _ fun i hi => by simp [unAt, List.getElem?_append_left hi]
set_option maxRecDepth 20000 in
theorem pick {α : Type} (p : α → Bool) (Z : List (α × Bool)) :
    (lastTo (unAt p Z) Z.length = none ∧ lastTo (mtAt p (keep Z)) (keep Z).length = none) ∨
    ∃ k f k', lastTo (unAt p Z) Z.length = some k ∧ Z[k]? = some (f, false) ∧ lastTo (mtAt p (keep Z)) (keep Z).length = some k' ∧ (keep Z)[k']? = some f ∧ (keep Z).eraseIdx k' = keep (Z.set k (f, true)) := by
  induction Z using snoc_ind with
  | h0 => exact .inl ⟨rfl, rfl⟩
  | h1 Z a ih =>
    obtain ⟨f, t⟩ := a
    rw [un_snoc, keep_snoc]
    cases t with
    | true =>
      rw [if_pos rfl]
      simp only [Bool.not_true, Bool.false_and, Bool.false_eq_true, if_false]
      rcases ih with ih | ⟨k, g, k', h1, h2, h3, h4, h5⟩
      · exact .inl ih
      · have hk := lastTo_lt _ _ h1
        refine .inr ⟨k, g, k', h1, by rw [List.getElem?_append_left hk]; exact h2, h3, h4, ?_⟩
        rw [h5, List.set_append_left _ _ hk, keep_snoc, if_pos rfl]
    | false =>
      simp only [Bool.false_eq_true, if_false]
      rw [mt_snoc]
      cases hp : p f with
      | true =>
        refine .inr ⟨Z.length, f, (keep Z).length, by simp, by simp, by simp, by simp, ?_⟩
        rw [List.set_append_right _ _ (Nat.le_refl _)]
        rw [List.eraseIdx_append_of_length_le (Nat.le_refl _)]
        simp [keep_snoc]
      | false =>
        simp only [Bool.not_false, Bool.true_and, Bool.false_eq_true, if_false]
        rcases ih with ih | ⟨k, g, k', h1, h2, h3, h4, h5⟩
        · exact .inl ih
        · have hk := lastTo_lt _ _ h1
          have hk' := lastTo_lt _ _ h3
          refine .inr ⟨k, g, k', h1, by rw [List.getElem?_append_left hk]; exact h2, h3, by rw [List.getElem?_append_left hk']; exact h4, ?_⟩
          rw [List.eraseIdx_append_of_lt_length hk', h5, List.set_append_left _ _ hk, keep_snoc, if_neg (by simp)]
end Go.Proofs.YtgabjiamabbheaaGreatDoor
