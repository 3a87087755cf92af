
/- The program's StoreBytes, of a store without long texts. -/
import Derived.Test.YtbepjjnjdhkcbaaDoorStSmall
import Derived.Test.YtbepjjnjdhkcbaaDoorSpecStore
namespace Go.Proofs.YtbepjjnjdhkcbaaDoor
open Go.RowKit Go.Lib Go.Maps
def shortM (m : GMail) : Prop := m.message.size ≤ 100000 ∧ ∀ t ∈ m.flags, t.size ≤ 100000
def shortB (b : GMailbox) : Prop := b.name.size ≤ 100000 ∧ ∀ m ∈ b.mails, shortM m
set_option maxRecDepth 20000 in
theorem implTooLongI (s : ByteArray) (w : World) (hs : s.size ≤ 1048576) : Calls Tryd.prog 59 #[.string s] w fun e w' => e = .returned (.bool (decide ((100000 : Int) < (s.size : Int)))) ∧ w = w' := implTooLong s w (by omega)
set_option maxRecDepth 20000 in
theorem kindLong : KindT 59 (fun s => decide ((100000 : Int) < (s.size : Int))) := ⟨Go.Proofs.enters_of Tryd.func59 (by kernel_rfl) rfl, implTooLongI⟩
set_option maxRecDepth 20000 in
set_option maxHeartbeats 1000000 in
theorem implLongMail (m : GMail) (v3 : Value) (lo : Nat) (w : World) (hI : GMailIn lo w.heap.size w m v3) (hf : m.fits 1048576) (hs : shortM m) :
    Calls Tryd.prog 63 #[GMailV m v3] w fun e w' => e = .returned (.bool false) ∧ Below w.heap.size w w' := by
  obtain ⟨⟨a3, c3, rfl, t3⟩⟩ := hI
  obtain ⟨g1, g2, g3⟩ := hf
  obtain ⟨W, hW⟩ : ∃ W, W = w.alloc (.cells #[.int .i64 m.uid, .int .i64 m.modF, .int .i64 m.time, .slice a3 m.flags.length c3, .string m.message] 53) := ⟨_, rfl⟩
  have hb : Below w.heap.size w W := by rw [hW]; exact (Below.refl _ _).alloc (Nat.le_refl _) _
  have q3 : W.cell? ⟨w.heap.size, 3, none⟩ = some (.slice a3 m.flags.length c3) := by rw [hW]; simp
  have cL := mkHid (implTooLong m.message W (by omega))
  have cC := mkHid (implContainsT kindLong a3 m.flags c3 W (((t3.below hb (Nat.le_refl _)).mono (Nat.le_refl _) hb.size).tx) g1 g2)
  have e1 := hs.1
  rw [show decide ((100000 : Int) < (m.message.size : Int)) = false from decide_eq_false (by omega)] at cL
  rw [show (m.flags.any fun s => decide ((100000 : Int) < (s.size : Int))) = false by
    rw [List.any_eq_false]
    intro t ht
    have := hs.2 t ht
    simp
    omega] at cC
  have HW := mkHid hW
  have Hb := mkHid hb
  clear hW hb t3 hs g2 g1 g3 e1
  unfold GMailV
  go_enter Tryd.func63, Tryd.ntmps63
  go_wp2_with (first | (go_at_call 59; go_must (rw [← HW.out]; refine cL.out.mono ?_; rintro e wx ⟨rfl, rfl⟩)) | (go_at_call 52; go_must (refine cC.out.mono ?_; rintro e wx ⟨rfl, rfl⟩)))
  go_ret
  exact ⟨rfl, Hb.out⟩
set_option maxRecDepth 20000 in
set_option maxHeartbeats 1000000 in
theorem implIndexLong (o : Option Addr) (M : List GMail) (cap lo : Nat) (w : World) (hM : GMailsL lo w.heap.size w o M) (hl : M.length ≤ 1048576) (hf : ∀ m ∈ M, m.fits 1048576) (hs : ∀ m ∈ M, shortM m) :
    Calls Tryd.prog 73 #[.slice o M.length cap, .func (.func 63) #[] #[]] w fun e w' => e = .returned (.int .i64 (-1)) ∧ Below w.heap.size w w' := by
  have hE : ∀ (args : Array Value) (w : World), (callFunc 63 args).run Tryd.prog w = .ok (.enter 63 args) w := Go.Proofs.enters_of Tryd.func63 (by kernel_rfl) rfl
  have HM := mkHid hM
  have Hf := mkHid hf
  have Hs := mkHid hs
  clear hM hf hs
  go_enter Tryd.func73, Tryd.ntmps73
  go_wp2
  go_loopw [8] (fun iv wr => ∃ k : Nat, k ≤ M.length ∧ iv = .int .i64 k ∧ Hid (Below w.heap.size w wr)) (fun iv _ => M.length - (Lib.intOf iv).toNat)
  case atStart => exact ⟨0, Nat.zero_le _, rfl, Below.refl _ _⟩
  case round =>
    obtain ⟨k, hk, rfl, hB⟩ := hrel
    by_cases hlt : k < M.length
    · obtain ⟨a, v3, rfl, ha1, ha2, hAt, hIn⟩ := ((HM.out.below hB.out (Nat.le_refl _)).mono (Nat.le_refl _) hB.out.size) k hlt
      have cL := mkHid (implLongMail M[k] v3 lo wr hIn (Hf.out _ (List.getElem_mem hlt)) (Hs.out _ (List.getElem_mem hlt)))
      obtain ⟨⟨a3, k3, rfl, -⟩⟩ := hIn
      have d0 := hAt.c0
      have d1 := hAt.c1
      have d2 := hAt.c2
      have d3 := hAt.c3
      have d4 := hAt.c4
      clear hAt
      unfold GMailV at cL
      generalize M[k] = m at *
      go_wp2_with fail
      refine cL.out.mono ?_
      rintro e w1 ⟨rfl, hb1⟩
      have hB1 := mkHid (hB.out.trans (hb1.mono hB.out.size))
      clear cL hb1 hB d0 d1 d2 d3 d4
      go_wp2
      go_roundw
      case rel => exact ⟨k + 1, by omega, by go_num, hB1⟩
      case measure => simp [Lib.intOf]; omega
    · go_wp2
      go_ret
      exact ⟨rfl, hB.out⟩
set_option maxRecDepth 20000 in
theorem implContainsLong (o : Option Addr) (M : List GMail) (cap lo : Nat) (w : World) (hM : GMailsL lo w.heap.size w o M) (hl : M.length ≤ 1048576) (hf : ∀ m ∈ M, m.fits 1048576) (hs : ∀ m ∈ M, shortM m) :
    Calls Tryd.prog 62 #[.slice o M.length cap, .func (.func 63) #[] #[]] w fun e w' => e = .returned (.bool false) ∧ Below w.heap.size w w' := by
  have hI := mkHid (implIndexLong o M cap lo w hM hl hf hs)
  clear hM hf hs
  go_enter Tryd.func62, Tryd.ntmps62
  go_wp2_with fail
  refine hI.out.mono ?_
  rintro e w2 ⟨rfl, hb⟩
  go_wp2
  go_ret
  exact ⟨rfl, hb⟩
set_option maxRecDepth 20000 in
set_option maxHeartbeats 1000000 in
theorem implLongTexts (b : GMailbox) (v4 v5 : Value) (lo : Nat) (w : World) (hI : GMailboxIn lo w.heap.size w b v4 v5) (hf : b.fits 1048576) (hs : shortB b) :
    Calls Tryd.prog 44 #[GMailboxV b v4 v5] w fun e w' => e = .returned (.bool false) ∧ Below w.heap.size w w' := by
  obtain ⟨⟨a4, c4, rfl, t4⟩, ⟨a5, c5, rfl, t5⟩⟩ := hI
  obtain ⟨f0, f4, f4', f5, -⟩ := hf
  obtain ⟨W, hW⟩ : ∃ W, W = w.alloc (.cells #[.string b.name, .int .i64 b.validity, .int .i64 b.nextUid, .int .i64 b.topMod, .slice a4 b.mails.length c4, .slice a5 b.gones.length c5] 38) := ⟨_, rfl⟩
  have hb : Below w.heap.size w W := by rw [hW]; exact (Below.refl _ _).alloc (Nat.le_refl _) _
  have q4 : W.cell? ⟨w.heap.size, 4, none⟩ = some (.slice a4 b.mails.length c4) := by rw [hW]; simp
  have cL := mkHid (implTooLong b.name W (by omega))
  have cC := mkHid (implContainsLong a4 b.mails c4 lo W ((t4.below hb (Nat.le_refl _)).mono (Nat.le_refl _) hb.size) f4 f4' hs.2)
  have e1 := hs.1
  rw [show decide ((100000 : Int) < (b.name.size : Int)) = false from decide_eq_false (by omega)] at cL
  have HW := mkHid hW
  have Hb := mkHid hb
  clear hW hb t4 t5 hs f4' e1
  unfold GMailboxV
  go_enter Tryd.func44, Tryd.ntmps44
  go_wp2_with (first | (go_at_call 59; go_must (rw [← HW.out]; refine cL.out.mono ?_; rintro e wx ⟨rfl, rfl⟩)) | (go_at_call 62; fail))
  refine cC.out.mono ?_
  rintro e w1 ⟨rfl, hb1⟩
  have hbe := mkHid (Hb.out.trans (hb1.mono Hb.out.size))
  go_wp2
  go_ret
  exact ⟨rfl, hbe.out⟩
set_option maxRecDepth 20000 in
set_option maxHeartbeats 1000000 in
theorem implBytesOf (o : Option Addr) (M : List GMail) (cap lo : Nat) (w : World) (hM : GMailsL lo w.heap.size w o M) (hl : M.length ≤ 1048576) (hf : ∀ m ∈ M, m.fits 1048576) :
    Calls Tryd.prog 45 #[.slice o M.length cap] w fun e w' => e = .returned (.int .i64 ((St.mailBytes M : Nat) : Int)) ∧ Below w.heap.size w w' := by
  have hmax := St.mailBytes_le M hf
  have hmax2 : St.mailBytes M ≤ 1099511627776 := by
    have : M.length * 1048576 ≤ 1048576 * 1048576 := Nat.mul_le_mul_right _ hl
    omega
  obtain ⟨Z, hZ⟩ : ∃ Z, St.mailBytes M = Z := ⟨_, rfl⟩
  rw [hZ] at hmax2 ⊢
  have HZ : Hid (0 + St.mailBytes (M.drop 0) = Z) := by show _ = _; rw [Nat.zero_add]; exact hZ
  have HM := mkHid hM
  clear hM hZ hmax hf
  go_enter Tryd.func45, Tryd.ntmps45
  go_wp2
  go_loopw [3, 8] (fun nv iv wr => ∃ k s : Nat, k ≤ M.length ∧ iv = .int .i64 k ∧ nv = .int .i64 (s : Int) ∧ Hid (s + St.mailBytes (M.drop k) = Z) ∧ Hid (Below w.heap.size w wr)) (fun _ iv _ => M.length - (Lib.intOf iv).toNat)
  case atStart => exact ⟨0, 0, Nat.zero_le _, rfl, rfl, HZ, Below.refl _ _⟩
  case round =>
    clear HZ
    obtain ⟨k, s, hk, rfl, rfl, hz, hB⟩ := hrel
    by_cases hlt : k < M.length
    · obtain ⟨a, v3, rfl, ha1, ha2, hAt, hIn⟩ := ((HM.out.below hB.out (Nat.le_refl _)).mono (Nat.le_refl _) hB.out.size) k hlt
      obtain ⟨⟨a3, k3, rfl, -⟩⟩ := hIn
      have d0 := hAt.c0
      have d1 := hAt.c1
      have d2 := hAt.c2
      have d3 := hAt.c3
      have d4 := hAt.c4
      have hst := hz.out
      rw [St.mailBytes_step M k hlt] at hst
      have hsb : s + M[k].message.size ≤ 1099511627776 := by omega
      have hz2 : Hid ((s + M[k].message.size) + St.mailBytes (M.drop (k + 1)) = Z) := by show _ = _; omega
      have hms : M[k].message.size ≤ 1099511627776 := by omega
      clear hAt hz hst
      generalize M[k] = m at *
      have hB2 := mkHid (hB.out.alloc hB.out.size (.cells #[.int .i64 m.uid, .int .i64 m.modF, .int .i64 m.time, .slice a3 m.flags.length k3, .string m.message] 53))
      generalize m.message = ms at *
      clear hB
      go_wp2
      go_roundw
      case rel => exact ⟨k + 1, s + ms.size, by omega, by go_num, by go_num, hz2, hB2⟩
      case measure => simp [Lib.intOf]; omega
    · have hz2 : Hid (s = Z) := by
        have := hz.out
        rw [List.drop_eq_nil_of_le (by omega)] at this
        exact this
      clear hz
      go_wp2
      go_ret
      rw [← hz2.out]
      exact ⟨rfl, hB.out⟩
set_option maxRecDepth 20000 in
set_option maxHeartbeats 2000000 in
theorem implBytes (n : GStore) (v1 : Value) (lo : Nat) (w : World) (hI : GStoreIn lo w.heap.size w n v1) (hf : n.fits 1048576) (hs : ∀ b ∈ n.boxes, shortB b) :
    Calls Tryd.prog 30 #[GStoreV n v1] w fun e w' => e = .returned (.int .i64 ((St.boxBytes n.boxes : Nat) : Int)) ∧ Below w.heap.size w w' := by
  obtain ⟨⟨a1, c1, rfl, t1⟩⟩ := hI
  obtain ⟨f1, f2⟩ := hf
  have hmax := St.boxBytes_le n.boxes f2
  have hmax2 : St.boxBytes n.boxes ≤ 1152921504606846976 := by
    have : n.boxes.length * 1099511627776 ≤ 1048576 * 1099511627776 := Nat.mul_le_mul_right _ f1
    omega
  obtain ⟨W, hW⟩ : ∃ W, W = w.alloc (.cells #[.int .i64 n.nextValidity, .slice a1 n.boxes.length c1] 29) := ⟨_, rfl⟩
  have hb : Below w.heap.size w W := by rw [hW]; exact (Below.refl _ _).alloc (Nat.le_refl _) _
  have HT := mkHid ((t1.below hb (Nat.le_refl _)).mono (Nat.le_refl _) hb.size)
  have HW := mkHid hW
  have Hb := mkHid hb
  have Hf := mkHid f2
  have Hs := mkHid hs
  clear hW hb t1 f2 hs hmax
  unfold GStoreV
  generalize n.boxes = F at *
  generalize n.nextValidity = nv at *
  obtain ⟨Z, hZ⟩ : ∃ Z, St.boxBytes F = Z := ⟨_, rfl⟩
  rw [hZ] at hmax2 ⊢
  have HZ : Hid (0 + St.boxBytes (F.drop 0) = Z) := by show _ = _; rw [Nat.zero_add]; exact hZ
  clear hZ
  go_enter Tryd.func30, Tryd.ntmps30
  go_wp2
  rw [← HW.out]
  clear HW
  go_loopw [3, 9] (fun nv iv wr => ∃ k s : Nat, k ≤ F.length ∧ iv = .int .i64 k ∧ nv = .int .i64 (s : Int) ∧ Hid (s + St.boxBytes (F.drop k) = Z) ∧ Hid (Below W.heap.size W wr)) (fun _ iv _ => F.length - (Lib.intOf iv).toNat)
  case atStart => exact ⟨0, 0, Nat.zero_le _, rfl, rfl, HZ, Below.refl _ _⟩
  case round =>
    clear HZ
    obtain ⟨k, s, hk, rfl, rfl, hz, hB⟩ := hrel
    by_cases hlt : k < F.length
    · obtain ⟨a, v4, v5, rfl, ha1, ha2, hAt, hIn⟩ := ((HT.out.below hB.out (Nat.le_refl _)).mono (Nat.le_refl _) hB.out.size) k hlt
      have fk := Hf.out _ (List.getElem_mem hlt)
      have sk := Hs.out _ (List.getElem_mem hlt)
      have hInH := mkHid hIn
      obtain ⟨⟨a4, c4, rfl, t4⟩, ⟨a5, c5, rfl, t5⟩⟩ := hIn
      have d0 := hAt.c0
      have d1 := hAt.c1
      have d2 := hAt.c2
      have d3 := hAt.c3
      have d4 := hAt.c4
      have d5 := hAt.c5
      have hst := hz.out
      rw [St.boxBytes_step F k hlt] at hst
      obtain ⟨q, hq⟩ : ∃ q, St.mailBytes F[k].mails = q := ⟨_, rfl⟩
      have hsb : s + q ≤ 1152921504606846976 := by omega
      have hz2 : Hid ((s + q) + St.boxBytes (F.drop (k + 1)) = Z) := by show _ = _; omega
      obtain ⟨V, hV⟩ : ∃ V, V = wr.alloc (.cells #[.string F[k].name, .int .i64 F[k].validity, .int .i64 F[k].nextUid, .int .i64 F[k].topMod, .slice a4 F[k].mails.length c4, .slice a5 F[k].gones.length c5] 38) := ⟨_, rfl⟩
      have bV : Below wr.heap.size wr V := by rw [hV]; exact (Below.refl _ _).alloc (Nat.le_refl _) _
      have hVs : wr.heap.size < V.heap.size := by rw [hV]; simp
      have X0 : V.heap[wr.heap.size]? = some (.cells #[.string F[k].name, .int .i64 F[k].validity, .int .i64 F[k].nextUid, .int .i64 F[k].topMod, .slice a4 F[k].mails.length c4, .slice a5 F[k].gones.length c5] 38 (0, 0)) := by rw [hV]; exact heap_alloc_at _ _
      have e4 : V.cell? ⟨wr.heap.size, 4, none⟩ = some (.slice a4 F[k].mails.length c4) := by rw [hV]; simp
      have BV := mkHid (hB.out.trans (bV.mono hB.out.size))
      have inV := (hInH.out.same (Same.of_below bV (Nat.le_refl _))).mono (Nat.le_refl _) bV.size
      have cL := mkHid (implLongTexts F[k] _ _ lo V inV fk sk)
      have cB := mkHid (fun (w' : World) (hb' : Below V.heap.size V w') => implBytesOf a4 F[k].mails c4 lo w' (((t4.below bV (Nat.le_refl _)).mono (Nat.le_refl _) bV.size).below hb' (Nat.le_refl _) |>.mono (Nat.le_refl _) hb'.size) fk.2.1 fk.2.2.1)
      rw [hq] at cB
      have HV := mkHid hV
      have HX := mkHid X0
      clear hAt hz hst hInH t4 t5 hV bV inV X0 hq fk sk
      unfold GMailboxV at cL
      generalize F[k] = bx at *
      go_wp2_with (first | (rw [← HV.out]; clear HV; refine wpL_load_row rfl 38 _ rfl wr.heap.size _ 38 (0, 0) _ rfl HX.out Tryd.underlying38 rfl (by kernel_rfl) ?_) | (go_at_call 44; fail))
      refine cL.out.mono ?_
      rintro e w1 ⟨rfl, hb1⟩
      have k4 := (hb1.cell (p := ⟨wr.heap.size, 4, none⟩) hVs).trans e4
      have c2 := mkHid (cB.out w1 hb1)
      have B1 := mkHid (BV.out.trans (hb1.mono BV.out.size))
      clear cL cB hb1 e4 d0 d1 d2 d3 d4 d5 HX BV
      go_wp2_with (go_at_call 45; fail)
      refine c2.out.mono ?_
      rintro e w2 ⟨rfl, hb2⟩
      have B2 := mkHid (B1.out.trans (hb2.mono B1.out.size))
      clear c2 hb2 B1 k4
      go_wp2
      go_roundw
      case rel => exact ⟨k + 1, s + q, by omega, by go_num, by go_num, hz2, B2⟩
      case measure => simp [Lib.intOf]; omega
    · have hz2 : Hid (s = Z) := by
        have := hz.out
        rw [List.drop_eq_nil_of_le (by omega)] at this
        exact this
      have hbe := mkHid (Hb.out.trans (hB.out.mono Hb.out.size))
      clear hz
      go_wp2
      go_ret
      rw [← hz2.out]
      exact ⟨rfl, hbe.out⟩
end Go.Proofs.YtbepjjnjdhkcbaaDoor
