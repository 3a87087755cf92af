
/- SignerFault, both sides. -/
import Derived.Test.YtgabjiamabbheaaGreatDoorSignTests
import Derived.Test.YtgabjiamabbheaaGreatDoorSumImpl
import Derived.Test.YtgabjiamabbheaaGreatDoorTexts
import Derived.Test.YtgabjiamabbheaaGreatDoorCells
namespace Go.Proofs.YtgabjiamabbheaaGreatDoor
open Go.RowKit Go.Lib
def nameB (t : ByteArray) : Bool := Pl.sNameOk t.data.toList
set_option maxRecDepth 20000 in
theorem Pl.all_stepT (K : ByteArray → Bool) (F : List ByteArray) (k : Nat) (h : k < F.length) : (F.drop k).all K = (K F[k] && (F.drop (k + 1)).all K) := by
  rw [List.drop_eq_getElem_cons h, List.all_cons]
/-- Whether a signer is right. -/
def signerOk (d s : ByteArray) (A B : Int) (F : List ByteArray) (h b : Int) : Bool :=
  Pl.domOk d.data.toList && (Pl.selOk s.data.toList && (keyOk A B && (decide (h = 0 ∨ h = 1) && (decide (b = 0 ∨ b = 1) && (decide (1 ≤ F.length) && (decide (F.length ≤ 30) && F.all nameB))))))
abbrev sgV (d s : ByteArray) (A B : Int) (v : Value) (h b : Int) : Value := .agg #[.string d, .string s, .int .i64 A, .int .i64 B, v, .int .i64 h, .int .i64 b]
set_option maxRecDepth 20000 in
theorem sg_cells {w : World} {g : Nat} {d s : ByteArray} {A B h b : Int} {v : Value} {t : TypeId} (hk : w.heap[g]? = some (.cells #[.string d, .string s, .int .i64 A, .int .i64 B, v, .int .i64 h, .int .i64 b] t (0, 0))) :
    w.cell? ⟨g, 0, none⟩ = some (.string d) ∧ w.cell? ⟨g, 1, none⟩ = some (.string s) ∧ w.cell? ⟨g, 2, none⟩ = some (.int .i64 A) ∧ w.cell? ⟨g, 3, none⟩ = some (.int .i64 B) ∧ w.cell? ⟨g, 4, none⟩ = some v ∧ w.cell? ⟨g, 5, none⟩ = some (.int .i64 h) ∧ w.cell? ⟨g, 6, none⟩ = some (.int .i64 b) := by
  refine ⟨?_, ?_, ?_, ?_, ?_, ?_, ?_⟩ <;> simp [World.cell?, hk]
set_option maxRecDepth 20000 in
theorem entersNo : ∀ (args : Array Value) (w : World), (callFunc 113 args).run Tryz.prog w = .ok (.enter 113 args) w := Go.Proofs.enters_of Tryz.func113 (by kernel_rfl) rfl
set_option maxRecDepth 20000 in
set_option maxHeartbeats 1000000 in
theorem implIndexNo (o : Option Addr) (F : List ByteArray) (cap : Nat) (w : World) (hF : Tx w.heap.size w o F) (hlen : F.length ≤ 1048576) (hsz : ∀ t ∈ F, t.size ≤ 1048576) :
    Calls Tryz.prog 135 #[.slice o F.length cap, .func (.func 113) #[] #[]] w fun e w' => ∃ i : Int, e = .returned (.int .i64 i) ∧ decide (0 ≤ i) = !F.all nameB ∧ w = w' := by
  have hE := entersNo
  have HF : Hid (Tx w.heap.size w o F) := hF
  have Hsz : Hid (∀ t ∈ F, t.size ≤ 1048576) := hsz
  clear hF hsz
  obtain ⟨R, hR⟩ : ∃ R, F.all nameB = R := ⟨_, rfl⟩
  have HR : Hid ((F.drop 0).all nameB = R) := hR
  rw [hR]
  clear hR
  go_enter Tryz.func135, Tryz.ntmps135
  go_wp2
  go_loopw [5, 8] (fun _ i wr => ∃ k : Nat, k ≤ F.length ∧ i = .int .i64 k ∧ Hid ((F.drop k).all nameB = R) ∧ wr = w) (fun _ i _ => F.length - (Lib.intOf i).toNat)
  case atStart => exact ⟨0, Nat.zero_le _, rfl, HR, rfl⟩
  case round =>
    clear HR
    obtain ⟨k, hk, rfl, hp, rfl⟩ := hrel
    by_cases hlt : k < F.length
    · obtain ⟨a, rfl, ha, hc0⟩ := HF.out k hlt
      have hst := Pl.all_stepT nameB F k hlt
      rw [hp.out] at hst
      have hN := fun w => implNoSignName F[k] w (Nat.le_trans (Hsz.out _ (List.getElem_mem hlt)) (by omega))
      have hNB : Pl.sNameOk F[k].data.toList = nameB F[k] := rfl
      simp only [hNB] at hN
      have Hst : Hid (R = (nameB F[k] && (F.drop (k + 1)).all nameB)) := hst
      clear hst hp hNB
      generalize nameB F[k] = nb at *
      generalize F[k] = f at *
      cases nb
      · have hR : R = false := by rw [Hst.out, Bool.false_and]
        subst hR
        clear Hst
        go_wp2_with fail
        refine (hN _).mono ?_
        rintro e w2 ⟨rfl, rfl⟩
        go_wp2
        go_ret
        exact ⟨k, rfl, by simp, rfl⟩
      · have HN : Hid ((F.drop (k + 1)).all nameB = R) := by show _ = _; rw [Hst.out, Bool.true_and]
        clear Hst
        go_wp2_with fail
        refine (hN _).mono ?_
        rintro e w2 ⟨rfl, rfl⟩
        go_wp2
        go_roundw
        case rel => exact ⟨k + 1, by omega, by go_num, HN, trivial⟩
        case measure => simp [Lib.intOf]; omega
    · have hR : R = true := by rw [← hp.out, List.drop_eq_nil_of_le (by omega)]; rfl
      subst hR
      clear hp
      go_wp2
      go_ret
      exact ⟨-1, rfl, rfl, rfl⟩
set_option maxRecDepth 20000 in
set_option maxHeartbeats 1000000 in
theorem implContainsNo (o : Option Addr) (F : List ByteArray) (cap : Nat) (w : World) (hF : Tx w.heap.size w o F) (hlen : F.length ≤ 1048576) (hsz : ∀ t ∈ F, t.size ≤ 1048576) :
    Calls Tryz.prog 112 #[.slice o F.length cap, .func (.func 113) #[] #[]] w fun e w' => e = .returned (.bool (!F.all nameB)) ∧ w = w' := by
  have hI := implIndexNo o F cap w hF hlen hsz
  clear hF hsz
  go_enter Tryz.func112, Tryz.ntmps112
  go_wp2_with fail
  refine hI.mono ?_
  rintro e w2 ⟨i, rfl, hi, rfl⟩
  go_wp2
  go_ret
  exact ⟨by rw [← hi]; rfl, rfl⟩
set_option maxRecDepth 20000 in
set_option maxHeartbeats 1000000 in
theorem implNames (o : Option Addr) (F : List ByteArray) (cap : Nat) (w : World) (hF : Tx w.heap.size w o F) (hlen : F.length ≤ 1048576) (hsz : ∀ t ∈ F, t.size ≤ 1048576) :
    Calls Tryz.prog 82 #[.slice o F.length cap] w fun e w' => e = .returned (.bool (decide (1 ≤ F.length) && (decide (F.length ≤ 30) && F.all nameB))) ∧ w = w' := by
  have hC := implContainsNo o F cap w hF hlen hsz
  clear hF hsz
  generalize F.all nameB = b at *
  by_cases h1 : 1 ≤ F.length
  · rw [decide_eq_true h1, Bool.true_and]
    by_cases h2 : F.length ≤ 30
    · rw [decide_eq_true h2, Bool.true_and]
      go_enter Tryz.func82, Tryz.ntmps82
      go_wp2_with fail
      refine hC.mono ?_
      rintro e w2 ⟨rfl, rfl⟩
      go_wp2
      go_ret
      exact ⟨by first | rfl | (cases b <;> rfl), rfl⟩
    · rw [decide_eq_false h2, Bool.false_and]
      clear hC
      go_enter Tryz.func82, Tryz.ntmps82
      go_wp2
      go_ret
      exact ⟨rfl, rfl⟩
  · rw [decide_eq_false h1, Bool.false_and]
    clear hC
    go_enter Tryz.func82, Tryz.ntmps82
    go_wp2
    go_ret
    exact ⟨rfl, rfl⟩
set_option maxRecDepth 20000 in
theorem implFormS (x : Int) (w : World) : Calls Tryz.prog 56 #[.int .i64 x] w fun e w' => e = .returned (.bool (decide (x = 0 ∨ x = 1))) ∧ w = w' := by
  by_cases h0 : x = 0
  · subst h0
    go_enter Tryz.func56, Tryz.ntmps56
    go_wp2
    go_ret
    exact ⟨rfl, rfl⟩
  · have e0 : (x == 0) = false := beq_eq_false_iff_ne.2 h0
    by_cases h1 : x = 1
    · subst h1
      go_enter Tryz.func56, Tryz.ntmps56
      go_wp2
      go_ret
      exact ⟨rfl, rfl⟩
    · have e1 : (x == 1) = false := beq_eq_false_iff_ne.2 h1
      rw [decide_eq_false (by omega)]
      go_enter Tryz.func56, Tryz.ntmps56
      go_wp2
      go_ret
      exact ⟨rfl, rfl⟩
set_option maxRecDepth 20000 in
set_option maxHeartbeats 4000000 in
theorem implSays (d s : ByteArray) (A B h b m : Int) (o : Option Addr) (F : List ByteArray) (cap : Nat) (w : World) (hd : d.size ≤ 1048576) (hs : s.size ≤ 1048576) (hF : Tx w.heap.size w o F) (hlen : F.length ≤ 1048576) (hsz : ∀ t ∈ F, t.size ≤ 1048576) (hm : w.cell? ⟨0, 0, none⟩ = some (.int .i64 m)) :
    Calls Tryz.prog 52 #[sgV d s A B (.slice o F.length cap) h b] w fun e w' => e = .returned (.bool (Pl.domOk d.data.toList && (Pl.selOk s.data.toList && (decide (h = 0 ∨ h = 1) && (decide (b = 0 ∨ b = 1) && (decide (1 ≤ F.length) && (decide (F.length ≤ 30) && F.all nameB))))))) ∧ Below w.heap.size w w' := by
  obtain ⟨W, hW⟩ : ∃ W, W = w.alloc (.cells #[.string d, .string s, .int .i64 A, .int .i64 B, .slice o F.length cap, .int .i64 h, .int .i64 b] 31) := ⟨_, rfl⟩
  have hbA : Below w.heap.size w W := by rw [hW]; exact (Below.refl _ _).alloc (Nat.le_refl _) _
  have hk0 : W.heap[w.heap.size]? = some (.cells #[.string d, .string s, .int .i64 A, .int .i64 B, .slice o F.length cap, .int .i64 h, .int .i64 b] 31 (0, 0)) := by rw [hW]; exact heap_alloc_at _ _
  have hm0 : W.cell? ⟨0, 0, none⟩ = some (.int .i64 m) := (hbA.cell (World.block_lt_of_cell? _ _ hm)).trans hm
  have hD := implSignDomain d m W (by omega) hm0
  have hS := fun w => implSelector s w (by omega)
  have hH := fun w => implFormS h w
  have hB := fun w => implFormS b w
  have HF : Hid (Tx w.heap.size w o F) := hF
  have Hsz : Hid (∀ t ∈ F, t.size ≤ 1048576) := hsz
  clear hF hsz hm hm0
  have hN := fun (w : World) (hF : Tx w.heap.size w o F) => implNames o F cap w hF hlen Hsz.out
  have HN := (show Hid _ from hN)
  clear hN
  generalize Pl.domOk d.data.toList = b1 at *
  generalize Pl.selOk s.data.toList = b2 at *
  generalize decide (h = 0 ∨ h = 1) = b3 at *
  generalize decide (b = 0 ∨ b = 1) = b4 at *
  generalize (decide (1 ≤ F.length) && (decide (F.length ≤ 30) && F.all nameB)) = b5 at *
  go_enter Tryz.func52, Tryz.ntmps52
  go_wp2_with fail
  rw [← hW]
  refine hD.mono ?_
  rintro e w2 ⟨rfl, hb2⟩
  have hk2 := (hb2.block _ (heap_lt hk0)).trans hk0
  have hB2 := hbA.trans (hb2.mono hbA.size)
  obtain ⟨c0, c1, c2, c3, c4, c5, c6⟩ := sg_cells hk2
  have hF2 : Tx w2.heap.size w2 o F := (HF.out.below hB2).mono hB2.size
  have hN2 := HN.out w2 hF2
  clear hD hb2 hk0 hbA HN HF Hsz hF2 hW
  cases b1
  · go_wp2
    go_ret
    exact ⟨rfl, hB2⟩
  · go_wp2_with fail
    refine (hS _).mono ?_
    rintro e w3 ⟨rfl, rfl⟩
    cases b2
    · go_wp2
      go_ret
      exact ⟨rfl, hB2⟩
    · go_wp2_with fail
      refine (hH _).mono ?_
      rintro e w3 ⟨rfl, rfl⟩
      cases b3
      · go_wp2
        go_ret
        exact ⟨rfl, hB2⟩
      · go_wp2_with fail
        refine (hB _).mono ?_
        rintro e w3 ⟨rfl, rfl⟩
        cases b4
        · go_wp2
          go_ret
          exact ⟨rfl, hB2⟩
        · go_wp2_with fail
          refine hN2.mono ?_
          rintro e w3 ⟨rfl, rfl⟩
          go_wp2
          go_ret
          exact ⟨rfl, hB2⟩
set_option maxRecDepth 20000 in
set_option maxHeartbeats 4000000 in
theorem implSigner (d s : ByteArray) (A B h b m : Int) (o : Option Addr) (F : List ByteArray) (cap : Nat) (w : World) (hd : d.size ≤ 1048576) (hs : s.size ≤ 1048576) (hF : Tx w.heap.size w o F) (hlen : F.length ≤ 1048576) (hsz : ∀ t ∈ F, t.size ≤ 1048576) (hm : w.cell? ⟨0, 0, none⟩ = some (.int .i64 m)) :
    Calls Tryz.prog 22 #[sgV d s A B (.slice o F.length cap) h b] w fun e w' => e = .returned (.int .i64 (dcode (signerOk d s A B F h b))) ∧ Below w.heap.size w w' := by
  obtain ⟨W, hW⟩ : ∃ W, W = w.alloc (.cells #[.string d, .string s, .int .i64 A, .int .i64 B, .slice o F.length cap, .int .i64 h, .int .i64 b] 31) := ⟨_, rfl⟩
  have hbA : Below w.heap.size w W := by rw [hW]; exact (Below.refl _ _).alloc (Nat.le_refl _) _
  have hk0 : W.heap[w.heap.size]? = some (.cells #[.string d, .string s, .int .i64 A, .int .i64 B, .slice o F.length cap, .int .i64 h, .int .i64 b] 31 (0, 0)) := by rw [hW]; exact heap_alloc_at _ _
  have hm0 : W.cell? ⟨0, 0, none⟩ = some (.int .i64 m) := (hbA.cell (World.block_lt_of_cell? _ _ hm)).trans hm
  have hK := implRight d s A B W
  have HF : Hid (Tx w.heap.size w o F) := hF
  have Hm : Hid (W.cell? ⟨0, 0, none⟩ = some (.int .i64 m)) := hm0
  have hSay := fun (w : World) (hF : Tx w.heap.size w o F) hm => implSays d s A B h b m o F cap w hd hs hF hlen hsz hm
  have HSay := (show Hid _ from hSay)
  clear hF hsz hm hm0 hSay
  have e0 : signerOk d s A B F h b = (keyOk A B && (Pl.domOk d.data.toList && (Pl.selOk s.data.toList && (decide (h = 0 ∨ h = 1) && (decide (b = 0 ∨ b = 1) && (decide (1 ≤ F.length) && (decide (F.length ≤ 30) && F.all nameB))))))) := by
    unfold signerOk
    cases Pl.domOk d.data.toList <;> cases Pl.selOk s.data.toList <;> cases keyOk A B <;> rfl
  rw [e0]
  generalize (Pl.domOk d.data.toList && (Pl.selOk s.data.toList && (decide (h = 0 ∨ h = 1) && (decide (b = 0 ∨ b = 1) && (decide (1 ≤ F.length) && (decide (F.length ≤ 30) && F.all nameB)))))) = bs at *
  generalize keyOk A B = bk at *
  clear e0
  go_enter Tryz.func22, Tryz.ntmps22
  go_wp2_with fail
  rw [← hW]
  refine hK.mono ?_
  rintro e w2 ⟨rfl, hb2⟩
  have hk2 := (hb2.block _ (heap_lt hk0)).trans hk0
  have hB2 := hbA.trans (hb2.mono hbA.size)
  obtain ⟨c0, c1, c2, c3, c4, c5, c6⟩ := sg_cells hk2
  have hm2 := (hb2.cell (World.block_lt_of_cell? _ _ Hm.out)).trans Hm.out
  have hS2 := HSay.out w2 ((HF.out.below hB2).mono hB2.size) hm2
  clear hK hb2 hk0 hbA HSay HF hW hm2 Hm
  cases bk
  · go_wp2
    go_ret
    exact ⟨rfl, hB2⟩
  · go_wp2_with fail
    refine hS2.mono ?_
    rintro e w3 ⟨rfl, hb3⟩
    have hB3 := hB2.trans (hb3.mono hB2.size)
    cases bs
    · go_wp2
      go_ret
      exact ⟨rfl, hB3⟩
    · go_wp2
      go_ret
      exact ⟨rfl, hB3⟩
end Go.Proofs.YtgabjiamabbheaaGreatDoor
