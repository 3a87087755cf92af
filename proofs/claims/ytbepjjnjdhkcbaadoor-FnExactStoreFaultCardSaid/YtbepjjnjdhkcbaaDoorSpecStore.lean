
/- The specification's FindBox and StoreBytes. -/
import Derived.Test.YtbepjjnjdhkcbaaDoorGenStore
namespace Go.Proofs.YtbepjjnjdhkcbaaDoor
open Go.RowKit Go.Lib Go.Maps
namespace St
def findFrom (t : ByteArray) : Nat → List GMailbox → Int
  | _, [] => -1
  | k, b :: r => if (b.name.toList == t.toList) = true then (k : Int) else findFrom t (k + 1) r
theorem find_step (t : ByteArray) (k : Nat) (l : List GMailbox) (h : k < l.length) : findFrom t k (l.drop k) = if (l[k].name.toList == t.toList) = true then (k : Int) else findFrom t (k + 1) (l.drop (k + 1)) := by
  rw [List.drop_eq_getElem_cons h, findFrom]
def mailBytes : List GMail → Nat
  | [] => 0
  | m :: r => m.message.size + mailBytes r
def boxBytes : List GMailbox → Nat
  | [] => 0
  | b :: r => mailBytes b.mails + boxBytes r
theorem mailBytes_step (l : List GMail) (k : Nat) (h : k < l.length) : mailBytes (l.drop k) = l[k].message.size + mailBytes (l.drop (k + 1)) := by
  rw [List.drop_eq_getElem_cons h, mailBytes]
theorem boxBytes_step (l : List GMailbox) (k : Nat) (h : k < l.length) : boxBytes (l.drop k) = mailBytes l[k].mails + boxBytes (l.drop (k + 1)) := by
  rw [List.drop_eq_getElem_cons h, boxBytes]
theorem mailBytes_le : ∀ (l : List GMail), (∀ m ∈ l, m.fits 1048576) → mailBytes l ≤ l.length * 1048576
  | [], _ => by simp [mailBytes]
  | m :: r, h => by
    have h1 := mailBytes_le r (fun x hx => h x (List.mem_cons_of_mem _ hx))
    have h2 : m.message.size ≤ 1048576 := (h m (List.mem_cons_self)).2.2
    unfold mailBytes
    rw [List.length_cons]
    omega
theorem boxBytes_le : ∀ (l : List GMailbox), (∀ b ∈ l, b.fits 1048576) → boxBytes l ≤ l.length * 1099511627776
  | [], _ => by simp [boxBytes]
  | b :: r, h => by
    have h1 := boxBytes_le r (fun x hx => h x (List.mem_cons_of_mem _ hx))
    obtain ⟨-, f1, f2, -⟩ := h b (List.mem_cons_self)
    have h2 := mailBytes_le b.mails f2
    unfold boxBytes
    rw [List.length_cons]
    omega
end St
def plFindBox (n : GStore) (t : ByteArray) : Int := St.findFrom t 0 n.boxes
def plStoreBytes (n : GStore) : Int := (St.boxBytes n.boxes : Nat)
set_option maxHeartbeats 2000000 in
theorem specFindBox (n : GStore) (v1 : Value) (s1 : ByteArray) (lo : Nat) (w : World) (hI : GStoreIn lo w.heap.size w n v1) (hf : n.fits 1048576) (_hs1 : s1.size ≤ 1048576) :
    Calls Tryd.prog 10 #[GStoreV n v1, .string s1] w fun e w' => e = .returned (.int .i64 (plFindBox n s1)) ∧ Below w.heap.size w w' := by
  obtain ⟨⟨a1, c1, rfl, t1⟩⟩ := hI
  obtain ⟨f1, -⟩ := hf
  obtain ⟨Z, hZ⟩ : ∃ Z, plFindBox n s1 = Z := ⟨_, rfl⟩
  rw [hZ]
  have HZ : Hid (St.findFrom s1 0 (n.boxes.drop 0) = Z) := by rw [List.drop_zero]; exact hZ
  clear hZ
  obtain ⟨W, hW⟩ : ∃ W, W = w.alloc (.cells #[.int .i64 n.nextValidity, .slice a1 n.boxes.length c1] 29) := ⟨_, rfl⟩
  have hbA : Below w.heap.size w W := by rw [hW]; exact (Below.refl _ _).alloc (Nat.le_refl _) _
  have q1 : W.cell? ⟨w.heap.size, 1, none⟩ = some (.slice a1 n.boxes.length c1) := by rw [hW]; simp
  have HT := mkHid (t1.below hbA (Nat.le_refl _))
  have HW := mkHid hW
  clear hW t1
  generalize n.boxes = F at *
  unfold GStoreV
  go_enter Tryd.func10, Tryd.ntmps10
  go_wp2
  rw [← HW.out]
  clear HW
  go_loopw [5] (fun iv wr => ∃ (i : Nat), i ≤ F.length ∧ iv = .int .i64 i ∧ Hid (St.findFrom s1 i (F.drop i) = Z) ∧ wr = W) (fun iv _ => F.length - (Lib.intOf iv).toNat)
  case atStart => exact ⟨0, Nat.zero_le _, rfl, HZ, rfl⟩
  case round =>
    clear HZ
    obtain ⟨i, hi, rfl, hz, hWr⟩ := hrel
    have hWr' : wr = W := hWr
    clear hWr
    subst hWr'
    by_cases hlt : i < F.length
    · obtain ⟨a, v4, v5, rfl, ha1, ha2, hA, -⟩ := HT.out i hlt
      have c0 := hA.c0
      have hz1 := hz.out
      rw [St.find_step s1 i F hlt] at hz1
      clear hA hz
      generalize F[i] = b at *
      cases hb : (b.name.toList == s1.toList)
      · rw [hb, if_neg (by decide)] at hz1
        replace hz1 := mkHid hz1
        go_wp2
        go_roundw
        case rel => exact ⟨i + 1, by omega, by go_num, hz1, trivial⟩
        case measure => simp [Lib.intOf]; omega
      · rw [hb, if_pos rfl] at hz1
        replace hz1 := mkHid hz1
        go_wp2
        go_ret
        rw [← hz1.out]
        exact ⟨rfl, hbA⟩
    · have hz1 := hz.out
      rw [List.drop_eq_nil_of_le (by omega)] at hz1
      replace hz1 := mkHid hz1
      go_wp2
      go_ret
      rw [← hz1.out]
      exact ⟨rfl, hbA⟩
set_option maxHeartbeats 2000000 in
theorem specStoreBytes (n : GStore) (v1 : Value) (lo : Nat) (w : World) (hI : GStoreIn lo w.heap.size w n v1) (hf : n.fits 1048576) :
    Calls Tryd.prog 13 #[GStoreV n v1] w fun e w' => e = .returned (.int .i64 (plStoreBytes n)) ∧ Below w.heap.size w w' := by
  obtain ⟨⟨a1, c1, rfl, t1⟩⟩ := hI
  obtain ⟨f1, f2⟩ := hf
  have hmax := St.boxBytes_le n.boxes f2
  obtain ⟨Z, hZ⟩ : ∃ Z, St.boxBytes n.boxes = Z := ⟨_, rfl⟩
  unfold plStoreBytes
  rw [hZ] at hmax ⊢
  have hZm : Z ≤ 2000000000000000000 := by omega
  have HZ : Hid (0 + St.boxBytes (n.boxes.drop 0) = Z) := by rw [List.drop_zero, Nat.zero_add]; exact hZ
  clear hZ hmax
  obtain ⟨W, hW⟩ : ∃ W, W = w.alloc (.cells #[.int .i64 n.nextValidity, .slice a1 n.boxes.length c1] 29) := ⟨_, rfl⟩
  have hbA : Below w.heap.size w W := by rw [hW]; exact (Below.refl _ _).alloc (Nat.le_refl _) _
  have q1 : W.cell? ⟨w.heap.size, 1, none⟩ = some (.slice a1 n.boxes.length c1) := by rw [hW]; simp
  have HT := mkHid (t1.below hbA (Nat.le_refl _))
  have HW := mkHid hW
  have Hf := mkHid f2
  clear hW t1 f2
  generalize n.boxes = F at *
  unfold GStoreV
  go_enter Tryd.func13, Tryd.ntmps13
  go_wp2
  rw [← HW.out]
  clear HW
  go_loopw [3, 4] (fun nv iv wr => ∃ (i s : Nat), i ≤ F.length ∧ iv = .int .i64 i ∧ nv = .int .i64 s ∧ Hid (s + St.boxBytes (F.drop i) = Z) ∧ wr = W) (fun _ iv _ => F.length - (Lib.intOf iv).toNat)
  case atStart => exact ⟨0, 0, Nat.zero_le _, rfl, rfl, HZ, rfl⟩
  case round =>
    clear HZ
    obtain ⟨i, s, hi, rfl, rfl, hz, hWr⟩ := hrel
    have hWr' : wr = W := hWr
    clear hWr
    subst hWr'
    by_cases hlt : i < F.length
    · obtain ⟨a, v4, v5, rfl, ha1, ha2, hA, hIn⟩ := HT.out i hlt
      obtain ⟨-, g1, g2, -⟩ := Hf.out F[i] (List.getElem_mem hlt)
      have c4 := hA.c4
      have hz1 := hz.out
      rw [St.boxBytes_step F i hlt] at hz1
      obtain ⟨⟨a4, k4, rfl, t4⟩, -⟩ := hIn
      clear hA hz
      obtain ⟨R, hR⟩ : ∃ R, St.boxBytes (F.drop (i + 1)) = R := ⟨_, rfl⟩
      rw [hR] at hz1
      have HR := mkHid hR
      clear hR
      generalize F[i] = b at *
      have HM := mkHid t4
      clear t4 g2
      have hz2 : Hid (s + St.mailBytes (b.mails.drop 0) + R = Z) := by rw [List.drop_zero]; show _ = _; omega
      clear hz1
      generalize b.mails = M at *
      go_wp2
      obtain ⟨W2, hW2⟩ : ∃ W2, W2 = wr := ⟨_, rfl⟩
      subst hW2
      go_loopw [3, 5] (fun nv iv wr' => ∃ (k s' : Nat), k ≤ M.length ∧ iv = .int .i64 k ∧ nv = .int .i64 s' ∧ Hid (s' + St.mailBytes (M.drop k) + R = Z) ∧ wr' = W2) (fun _ iv _ => M.length - (Lib.intOf iv).toNat)
      case atStart => exact ⟨0, s, Nat.zero_le _, rfl, rfl, hz2, rfl⟩
      case round =>
        clear hz2
        obtain ⟨k, s', hk, rfl, rfl, hy, hWr2⟩ := hrel
        have hWr3 : wr = W2 := hWr2
        clear hWr2
        subst hWr3
        by_cases hkl : k < M.length
        · obtain ⟨a', u3, rfl, hm1, hm2, hB, -⟩ := HM.out k hkl
          have d4 := hB.c4
          have hy1 := hy.out
          rw [St.mailBytes_step M k hkl] at hy1
          clear hB hy
          generalize M[k] = m at *
          obtain ⟨R2, hR2⟩ : ∃ R2, St.mailBytes (M.drop (k + 1)) = R2 := ⟨_, rfl⟩
          rw [hR2] at hy1
          have hy2 : Hid ((s' + m.message.size) + St.mailBytes (M.drop (k + 1)) + R = Z) := by rw [hR2]; show _ = _; omega
          have hbd : s' + m.message.size ≤ 2000000000000000000 := by omega
          clear hR2 hy1
          generalize m.message = msg at *
          go_wp2
          go_roundw
          case rel => exact ⟨k + 1, s' + msg.size, by omega, by go_num, by go_num, hy2, trivial⟩
          case measure => simp [Lib.intOf]; omega
        · have hy1 : Hid (s' + St.boxBytes (F.drop (i + 1)) = Z) := by
            have := hy.out
            rw [List.drop_eq_nil_of_le (by omega)] at this
            rw [HR.out]
            exact this
          clear hy
          go_wp2
          go_roundw
          case rel => exact ⟨i + 1, s', by omega, by go_num, rfl, hy1, trivial⟩
          case measure => simp [Lib.intOf]; omega
    · have hz1 : Hid (s = Z) := by
        have := hz.out
        rw [List.drop_eq_nil_of_le (by omega)] at this
        exact this
      go_wp2
      go_ret
      rw [hz1.out]
      exact ⟨rfl, hbA⟩
end Go.Proofs.YtbepjjnjdhkcbaaDoor
