
/- Decode, the specification's side. -/

/- An encoded word: the specification's side. -/
import Derived.Test.YtgfgondjpfnmiaaGreatDoorDcSame
import Derived.Test.YtgfgondjpfnmiaaGreatDoorWdPlain3
import Derived.Test.YtgfgondjpfnmiaaGreatDoorWdSpec1
import Derived.Test.YtgfgondjpfnmiaaGreatDoorU64Spec
import Derived.Test.YtgfgondjpfnmiaaGreatDoorCsName
namespace Go.Proofs.YtgfgondjpfnmiaaGreatDoor
open Go.RowKit Go.Lib
set_option maxRecDepth 20000 in
theorem getD_drop (s : ByteArray) (a : Nat) (h : a < s.size) : (s.data.toList.drop a).getD 0 0 = s[a] := by
  have hl : a < s.data.toList.length := by simpa using h
  rw [List.drop_eq_getElem_cons hl]
  rfl
set_option maxRecDepth 20000 in
set_option maxHeartbeats 1000000 in
theorem specTake1 (s : ByteArray) (a : Nat) (w : World) (ha : a < s.size) :
    Calls Tryz.prog 34 #[.int .i64 1, .string s, .int .i64 a] w fun e w' => e = .returned (tkV (Pd.take 1 (s.data.toList.drop a))) ∧ Below w.heap.size w w' := by
  have h8 : s[a].toNat < 256 := UInt8.toNat_lt _
  have e : Pd.take 1 (s.data.toList.drop a) = if s[a].toNat < 128 then some ((s[a].toNat : Int), 1) else none := by
    unfold Pd.take
    rw [if_pos rfl, getD_drop s a ha]
  rw [e]
  clear e
  generalize hsk : s[a] = c at *
  by_cases h : c.toNat < 128
  · rw [if_pos h]
    go_enter Tryz.func34, Tryz.ntmps34
    go_wp2
    go_ret2
    exact ⟨rfl, Below.refl _ _⟩
  · rw [if_neg h]
    go_enter Tryz.func34, Tryz.ntmps34
    go_wp2
    go_ret2
    exact ⟨rfl, Below.refl _ _⟩
set_option maxRecDepth 20000 in
set_option maxHeartbeats 1000000 in
theorem specTake2 (s : ByteArray) (a : Nat) (w : World) (ha : a < s.size) :
    Calls Tryz.prog 34 #[.int .i64 2, .string s, .int .i64 a] w fun e w' => e = .returned (tkV (Pd.take 2 (s.data.toList.drop a))) ∧ Below w.heap.size w w' := by
  have h8 : s[a].toNat < 256 := UInt8.toNat_lt _
  have e : Pd.take 2 (s.data.toList.drop a) = some ((s[a].toNat : Int), 1) := by
    unfold Pd.take
    rw [if_neg (by decide), if_pos rfl, getD_drop s a ha]
  rw [e]
  clear e
  generalize hsk : s[a] = c at *
  go_enter Tryz.func34, Tryz.ntmps34
  go_wp2
  go_ret2
  exact ⟨rfl, Below.refl _ _⟩
set_option maxRecDepth 20000 in
set_option maxHeartbeats 1000000 in
theorem specTake3 (s : ByteArray) (a : Nat) (w : World) (ha : a < s.size) :
    Calls Tryz.prog 34 #[.int .i64 3, .string s, .int .i64 a] w fun e w' => e = .returned (tkV (Pd.take 3 (s.data.toList.drop a))) ∧ Below w.heap.size w w' := by
  have h8 : s[a].toNat < 256 := UInt8.toNat_lt _
  have e : Pd.take 3 (s.data.toList.drop a) = some (Pd.nineV s[a].toNat, 1) := by
    unfold Pd.take
    rw [if_neg (by decide), if_neg (by decide), if_pos rfl, getD_drop s a ha]
  rw [e]
  clear e
  have cN := mkHid (specNine s[a].toNat h8 w)
  unfold Pd.nineV
  generalize hsk : s[a] = c at *
  go_enter Tryz.func34, Tryz.ntmps34
  go_wp2_with fail
  refine cN.out.mono ?_
  rintro e w1 ⟨rfl, rfl⟩
  go_wp2
  go_ret2
  exact ⟨rfl, Below.refl _ _⟩
set_option maxRecDepth 20000 in
theorem specTakeA (set : Int) (hset : 1 ≤ set ∧ set ≤ 5) (s : ByteArray) (a : Nat) (w : World) (ha : a < s.size) (hs : s.size ≤ 100000) :
    Calls Tryz.prog 34 #[.int .i64 set, .string s, .int .i64 a] w fun e w' => e = .returned (tkV (Pd.take set (s.data.toList.drop a))) ∧ Below w.heap.size w w' := by
  have h5 : set = 1 ∨ set = 2 ∨ set = 3 ∨ set = 4 ∨ set = 5 := by omega
  rcases h5 with rfl | rfl | rfl | rfl | rfl
  · exact specTake1 s a w ha
  · exact specTake2 s a w ha
  · exact specTake3 s a w ha
  · rw [← tk4]; exact specTakeD4 s a w ha hs
  · have e : Pd.take 5 (s.data.toList.drop a) = Pd.take16 (s.data.toList.drop a) := by
      unfold Pd.take
      rw [if_neg (by decide), if_neg (by decide), if_neg (by decide), if_neg (by decide)]
    rw [e, ← tk5]; exact specTakeD5 s a w ha hs
set_option maxRecDepth 20000 in
theorem OwnN.made (B : Nat) (w : World) (hB : B ≤ w.heap.size) : OwnN B (.slice (some ⟨w.heap.size, 0, none⟩) 0 0) [] (w.alloc (.cells #[] 2)) :=
  ⟨rfl, .inr ⟨w.heap.size, 0, #[], rfl, hB, heap_alloc_at _ _, Nat.le_refl _, Nat.zero_le _, rfl, rfl⟩⟩
set_option maxRecDepth 20000 in
theorem retDS {w wr : World} {tmps : Array Value} {x : Option (List Int)} (cs : Array Value) (hp : tmps.getD 4 undef = .pointer (some ⟨w.heap.size, 0, none⟩)) {old : Array Value} (hres : wr.heap[w.heap.size]? = some (.cells old 29 (0, 0))) (hb : Below w.heap.size w wr) (h3 : cs.size = 3) (ho : DecOut w.heap.size x (.returned (.agg cs)) (wr.setRow w.heap.size cs)) :
    bodyPost Tryz.prog Tryz.f21 (fun e w' => DecOut w.heap.size x e w' ∧ Below w.heap.size w w') Exit.ret { tmps := tmps, defers := [] } (wr.setRow w.heap.size cs) := by
  refine bodyPost_ret (v := .agg cs) (results_cell_row Tryz.results21 _ _ w.heap.size 29 _ (0, 0) _ hp (setRow_heap _ _ _ _ _ _ hres) Tryz.underlying29 rfl ?_) rfl ⟨ho, hb.grown (grown_setRow _ _ _) hb.size (fun j hj => by cases hj; exact Nat.le_refl _)⟩
  rw [h3]
  kernel_rfl
set_option maxRecDepth 20000 in
set_option maxHeartbeats 4000000 in
theorem specDecode (set : Int) (s : ByteArray) (w : World) (hs : s.size ≤ 100000) :
    Calls Tryz.prog 21 #[.int .i64 set, .string s] w fun e w' => DecOut w.heap.size (decA set s.data.toList) e w' ∧ Below w.heap.size w w' := by
  have h1 : ¬ (100000 : Int) < (s.size : Int) := by omega
  obtain ⟨W, hW⟩ : ∃ W, W = w.alloc (.cells #[.bool false, .int .i64 0, .slice none 0 0] 29) := ⟨_, rfl⟩
  have hN0 : W.heap[w.heap.size]? = some (.cells #[.bool false, .int .i64 0, .slice none 0 0] 29 (0, 0)) := by rw [hW]; exact heap_alloc_at _ _
  have hB0 : Below w.heap.size w W := by rw [hW]; exact (Below.refl _ _).alloc (Nat.le_refl _) _
  have hz0 : W.heap.size = w.heap.size + 1 := by rw [hW, World.size_alloc]
  have cN := mkHid (fun V => specNameE set V)
  have HW := mkHid hW
  clear hW
  unfold decA
  by_cases h : set < 1 ∨ 5 < set
  · rw [if_pos h]
    go_enter Tryz.func21, Tryz.ntmps21
    go_wp2_with fail
    refine (cN.out _).mono ?_
    rintro e w2 ⟨t, rfl, ht, rfl⟩
    rw [decide_eq_true h] at ht
    have hte : t.toList = [] := List.isEmpty_iff.1 ht
    have ht2 : (t.toList == []) = true := by rw [hte]; rfl
    rw [← HW.out]
    clear cN
    go_wp2_with (first | (refine wpL_store_row rfl 29 _ _ rfl w.heap.size #[.bool false, .int .i64 0, .slice none 0 0] rfl rfl 29 _ hN0 (by kernel_rfl) rfl (by simp [Value.oneCell']) ?_) | go_in)
    exact retDS _ rfl hN0 hB0 rfl ⟨_, rfl⟩
  · rw [if_neg h]
    have hset : 1 ≤ set ∧ set ≤ 5 := by omega
    have cT := mkHid (fun a V (ha : a < s.size) => specTakeA set hset s a V ha hs)
    have HN := mkHid hN0
    have HB := mkHid hB0
    go_enter Tryz.func21, Tryz.ntmps21
    go_wp2_with fail
    refine (cN.out _).mono ?_
    rintro e w2 ⟨t, rfl, ht, rfl⟩
    rw [decide_eq_false h] at ht
    have ht2 : (t.toList == []) = false := by cases hq : t.toList with | nil => rw [hq] at ht; cases ht | cons a r => rfl
    rw [← HW.out]
    clear cN hN0 hB0 h ht
    have HO0 := mkHid (OwnN.made W.heap.size W (Nat.le_refl _))
    have HB1 := mkHid ((Below.refl W.heap.size W).alloc (Nat.le_refl _) (.cells #[] 2))
    go_wp2
    go_loopw [5, 6] (fun v iv wr => ∃ (k : Nat) (p : List Int), k ≤ s.size ∧ iv = .int .i64 k ∧ p.length ≤ k ∧ Hid (Pd.dec set p (s.data.toList.drop k) = Pd.dec set [] s.data.toList) ∧ Hid (OwnN W.heap.size v p wr) ∧ Hid (Below W.heap.size W wr)) (fun _ iv _ => s.size - (Lib.intOf iv).toNat)
    case atStart => exact ⟨0, [], Nat.zero_le _, rfl, Nat.le_refl _, mkHid rfl, mkHid (by rw [← hz0]; exact HO0.out), HB1⟩
    case round =>
      obtain ⟨k, p, hk, rfl, hpl, Hd, HO, Hb⟩ := hrel
      clear HO0 HB1
      have hll : s.data.toList.length = s.size := by simp
      have zr : W.heap.size ≤ wr.heap.size := Hb.out.size
      obtain ⟨ob, cb, rfl⟩ := HO.out.shape
      by_cases hlt : k < s.size
      · have hkd : k < s.data.toList.length := by omega
        have cK := mkHid (cT.out k wr hlt)
        cases hx : Pd.take set (s.data.toList.drop k) with
        | none =>
          have Hbad := mkHid (Pd.dec_bad hkd hx Hd.out)
          rw [hx] at cK
          unfold tkV at cK
          clear hx
          go_wp2_with fail
          refine cK.out.mono ?_
          rintro e wq ⟨rfl, hbq⟩
          have hrq := (hbq.block w.heap.size (by omega)).trans ((Hb.out.block w.heap.size (by omega)).trans HN.out)
          have hbw := mkHid (HB.out.trans ((Hb.out.trans (hbq.mono zr)).mono HB.out.size))
          clear cK
          go_wp2_with (first | (refine wpL_store_row rfl 29 _ _ rfl w.heap.size #[.bool false, .int .i64 (k : Int), .slice none 0 0] rfl rfl 29 _ hrq (by kernel_rfl) rfl (by simp [Value.oneCell']) ?_) | go_in)
          rw [Hbad.out]
          exact retDS _ rfl hrq hbw.out rfl ⟨_, rfl⟩
        | some qn =>
          obtain ⟨q, n⟩ := qn
          obtain ⟨hn1, hn2⟩ := Pd.take_room (by rw [List.drop_eq_getElem_cons hkd]; exact List.cons_ne_nil _ _) hx
          have Hst := mkHid (Pd.dec_step hkd hx Hd.out)
          have hn3 : k + n ≤ s.size := by rw [List.length_drop] at hn2; omega
          rw [hx] at cK
          unfold tkV at cK
          clear hx
          have hnz : ((n : Int) == 0) = false := by rw [beq_eq_false_iff_ne]; omega
          go_wp2_with fail
          refine cK.out.mono ?_
          rintro e wq ⟨rfl, hbq⟩
          have HOq := mkHid (HO.out.below hbq)
          have Hbq := mkHid (Hb.out.trans (hbq.mono zr))
          have zq : W.heap.size ≤ wq.heap.size := Hbq.out.size
          clear cK hbq HO Hb zr
          go_wp2_with (at_builtin; refine wp_appN rfl _ _ rfl W.heap.size (.slice ob p.length cb) p rfl HOq.out q _ rfl (by omega) zq ?_; intro v5 w5 hown5 hg5; refine Hid.out ?_)
          refine mkHid ?_
          have Hb5 := mkHid (Hbq.out.trans (show Below W.heap.size wq w5 from
            ⟨hg5.os, hg5.tape, hg5.output, Nat.le_trans (by simp) hg5.size, fun j hj => (hg5.block j (by simp; omega) (fun e => by have := (World.ownsRow.lt HOq.out j e.symm).1; omega)).trans (heap_alloc_old _ _ _ (by omega))⟩))
          clear hg5
          go_wp2
          go_roundw
          case rel => exact ⟨k + n, p ++ [q], hn3, by go_num, by simp; omega, Hst, mkHid hown5, Hb5⟩
          case measure => simp [Lib.intOf]; omega
      · have Hdn := mkHid (Pd.dec_done (by omega) Hd.out)
        have hres := (Hb.out.block w.heap.size (by omega)).trans HN.out
        have hbw := mkHid (HB.out.trans (Hb.out.mono HB.out.size))
        go_wp2_with (first | (refine wpL_store_row rfl 29 _ _ rfl w.heap.size #[.bool true, .int .i64 0, .slice ob p.length cb] rfl rfl 29 _ hres (by kernel_rfl) rfl (by simp [Value.oneCell']) ?_) | go_in)
        rw [Hdn.out]
        refine retDS _ rfl hres hbw.out rfl ⟨_, rfl, ?_⟩
        have hk2 := OwnN.keep HO.out (grown_setRow wr w.heap.size #[.bool true, .int .i64 0, .slice ob p.length cb]) (.inr (fun e => by have := (World.ownsRow.lt HO.out w.heap.size e).1; omega))
        exact own_baseN hk2 (by omega)
end Go.Proofs.YtgfgondjpfnmiaaGreatDoor
namespace Go.Proofs.YtgfgondjpfnmiaaGreatDoor
open Go.RowKit Go.Lib Go.Maps
set_option maxRecDepth 20000 in
theorem retWW {g : Nat} {w wr : World} {tmps : Array Value} {x : Option (List Int)} (cs : Array Value) (hp : tmps.getD 2 undef = .pointer (some ⟨g, 0, none⟩)) {old : Array Value} (hres : wr.heap[g]? = some (.cells old 29 (0, 0))) (hb : Below g w wr) (h3 : cs.size = 3) (ho : DecOut g x (.returned (.agg cs)) (wr.setRow g cs)) (hg : g ≤ w.heap.size := by omega) :
    bodyPost Tryz.prog Tryz.f10 (fun e w' => DecOut g x e w' ∧ Below g w w') Exit.ret { tmps := tmps, defers := [] } (wr.setRow g cs) := by
  refine bodyPost_ret (v := .agg cs) (results_cell_row Tryz.results10 _ _ g 29 _ (0, 0) _ hp (setRow_heap _ _ _ _ _ _ hres) Tryz.underlying29 rfl ?_) rfl ⟨ho, hb.grown (grown_setRow _ _ _) (by have := hb.size; omega) (fun j hj => by cases hj; exact Nat.le_refl _)⟩
  rw [h3]
  kernel_rfl
set_option maxRecDepth 20000 in
theorem retW0 {g : Nat} {w wr : World} {tmps : Array Value} (hres : wr.heap[g]? = some (.cells #[.bool false, .int .i64 0, .slice none 0 0] 29 (0, 0))) (hb : Below g w wr) (hp : tmps.getD 2 undef = .pointer (some ⟨g, 0, none⟩) := by rfl) :
    bodyPost Tryz.prog Tryz.f10 (fun e w' => DecOut g none e w' ∧ Below g w w') Exit.ret { tmps := tmps, defers := [] } wr :=
  bodyPost_ret (v := .agg #[.bool false, .int .i64 0, .slice none 0 0]) (results_cell_row Tryz.results10 _ _ g 29 _ (0, 0) _ hp hres Tryz.underlying29 rfl (by kernel_rfl)) rfl ⟨⟨_, rfl⟩, hb⟩
set_option maxRecDepth 20000 in
theorem heap_allocS (w : World) (o : Obj) : (w.alloc o).heap[w.heap.size]? = some o := by
  show (w.heap.push o)[w.heap.size]? = some o
  simp
set_option maxRecDepth 40000 in
set_option maxHeartbeats 8000000 in
theorem specWordSigns (s : ByteArray) (w : World) (hs : s.size ≤ 100000) (h : ¬ (s.size ≤ 75 ∧ hasPrefix s.data.toList [61, 63] = true ∧ hasSuffix s.data.toList [63, 61] = true)) :
    Calls Tryz.prog 10 #[.string s] w fun e w' => DecOut w.heap.size none e w' ∧ Below w.heap.size w w' := by
  obtain ⟨g, hg⟩ : ∃ g, w.heap.size = g := ⟨_, rfl⟩
  rw [hg]
  obtain ⟨W, hW⟩ : ∃ W, w.alloc (.cells #[.bool false, .int .i64 0, .slice none 0 0] 29) = W := ⟨_, rfl⟩
  have zW : W.heap.size = g + 1 := by rw [← hW, World.size_alloc, hg]
  have r0 : W.heap[g]? = some (.cells #[.bool false, .int .i64 0, .slice none 0 0] 29 (0, 0)) := by rw [← hW, ← hg]; exact heap_allocS _ _
  have bW : Below g w W := by rw [← hW]; exact (Below.refl _ _).alloc (by omega) _
  obtain ⟨V, hV⟩ : ∃ V, W.alloc (.cells #[.bool false, .int .i64 0, .slice none 0 0] 29) = V := ⟨_, rfl⟩
  have zV : V.heap.size = g + 2 := by rw [← hV, World.size_alloc, zW]
  have r1 : V.heap[g + 1]? = some (.cells #[.bool false, .int .i64 0, .slice none 0 0] 29 (0, 0)) := by rw [← hV, ← zW]; exact heap_allocS _ _
  have bV1 : Below (g + 1) W V := by rw [← hV]; exact (Below.refl _ _).alloc (by omega) _
  have n1 := r1
  have n0 : V.heap[g]? = some (.cells #[.bool false, .int .i64 0, .slice none 0 0] 29 (0, 0)) := (bV1.block g (by omega)).trans r0
  have bU : Below g w V := bW.trans (bV1.mono (by omega))
  have HW := mkHid hW
  have HV := mkHid hV
  have HZ := mkHid zV
  have HG := mkHid hg
  clear r0 r1 bW bV1 hW hV zV zW
  have cB := mkHid (fun X => specBeginsW s X)
  have cE := mkHid (fun X => specEndsW s X (by omega))
  generalize hasPrefix s.data.toList [61, 63] = b1 at *
  generalize hasSuffix s.data.toList [63, 61] = b2 at *
  have h3 : (75 : Int) < (s.size : Int) ∨ (¬ (75 : Int) < (s.size : Int) ∧ b1 = false) ∨ (¬ (75 : Int) < (s.size : Int) ∧ b1 = true ∧ b2 = false) := by
    by_cases h7 : s.size ≤ 75
    · cases b1
      · exact .inr (.inl ⟨by omega, rfl⟩)
      · cases b2
        · exact .inr (.inr ⟨by omega, rfl, rfl⟩)
        · exact absurd ⟨h7, rfl, rfl⟩ h
    · exact .inl (by omega)
  clear h
  rcases h3 with h7 | ⟨h7, rfl⟩ | ⟨h7, rfl, rfl⟩
  · go_enter Tryz.func10, Tryz.ntmps10
    go_wp2
    rw [HW.out, HV.out]
    exact retW0 n0 bU
  · go_enter Tryz.func10, Tryz.ntmps10
    go_wp2_with fail
    refine (cB.out _).mono ?_
    rintro e X ⟨rfl, rfl⟩
    clear cB
    go_wp2
    rw [HW.out, HV.out]
    exact retW0 n0 bU
  · go_enter Tryz.func10, Tryz.ntmps10
    go_wp2_with fail
    refine (cB.out _).mono ?_
    rintro e X ⟨rfl, rfl⟩
    clear cB
    go_wp2_with fail
    refine (cE.out _).mono ?_
    rintro e X ⟨rfl, rfl⟩
    clear cE
    go_wp2
    rw [HW.out, HV.out]
    exact retW0 n0 bU
set_option maxRecDepth 40000 in
set_option maxHeartbeats 8000000 in
theorem specWordFive (s : ByteArray) (w : World) (hs : s.size ≤ 75) (h1 : hasPrefix s.data.toList [61, 63] = true) (h2 : hasSuffix s.data.toList [63, 61] = true) (h5 : (Cu.cut 63 [] s.data.toList).length ≠ 5) :
    Calls Tryz.prog 10 #[.string s] w fun e w' => DecOut w.heap.size none e w' ∧ Below w.heap.size w w' := by
  obtain ⟨g, hg⟩ : ∃ g, w.heap.size = g := ⟨_, rfl⟩
  rw [hg]
  obtain ⟨W, hW⟩ : ∃ W, w.alloc (.cells #[.bool false, .int .i64 0, .slice none 0 0] 29) = W := ⟨_, rfl⟩
  have zW : W.heap.size = g + 1 := by rw [← hW, World.size_alloc, hg]
  have r0 : W.heap[g]? = some (.cells #[.bool false, .int .i64 0, .slice none 0 0] 29 (0, 0)) := by rw [← hW, ← hg]; exact heap_allocS _ _
  have bW : Below g w W := by rw [← hW]; exact (Below.refl _ _).alloc (by omega) _
  obtain ⟨V, hV⟩ : ∃ V, W.alloc (.cells #[.bool false, .int .i64 0, .slice none 0 0] 29) = V := ⟨_, rfl⟩
  have zV : V.heap.size = g + 2 := by rw [← hV, World.size_alloc, zW]
  have r1 : V.heap[g + 1]? = some (.cells #[.bool false, .int .i64 0, .slice none 0 0] 29 (0, 0)) := by rw [← hV, ← zW]; exact heap_allocS _ _
  have bV1 : Below (g + 1) W V := by rw [← hV]; exact (Below.refl _ _).alloc (by omega) _
  have n1 := r1
  have n0 : V.heap[g]? = some (.cells #[.bool false, .int .i64 0, .slice none 0 0] 29 (0, 0)) := (bV1.block g (by omega)).trans r0
  have bU : Below g w V := bW.trans (bV1.mono (by omega))
  have HW := mkHid hW
  have HV := mkHid hV
  have HZ := mkHid zV
  have HG := mkHid hg
  clear r0 r1 bW bV1 hW hV zV zW
  have cB := mkHid (fun X => specBeginsW s X)
  have cE := mkHid (fun X => specEndsW s X (by omega))
  have h7 : ¬ (75 : Int) < (s.size : Int) := by omega
  rw [h1] at cB
  rw [h2] at cE
  have cC := mkHid (specCut s 63 V (by omega))
  have h5b : ¬ (((Cu.cut 63 [] s.data.toList).map Cu.mk).length : Int) = 5 := by rw [List.length_map]; omega
  generalize (Cu.cut 63 [] s.data.toList).map Cu.mk = P at *
  clear h1 h2 h5
  go_enter Tryz.func10, Tryz.ntmps10
  go_wp2_with fail
  refine (cB.out _).mono ?_
  rintro e X ⟨rfl, rfl⟩
  clear cB
  go_wp2_with fail
  refine (cE.out _).mono ?_
  rintro e X ⟨rfl, rfl⟩
  clear cE
  go_wp2_with fail
  rw [HW.out, HV.out]
  refine cC.out.mono ?_
  rintro e X ⟨y, rfl, hOX, hbX⟩
  clear cC
  have HOX := hOX
  have zX : g + 2 ≤ X.heap.size := by have := hbX.size; have := HZ.out; omega
  have n0X := (hbX.block g (by have := HZ.out; omega)).trans n0
  have n1X := (hbX.block (g + 1) (by have := HZ.out; omega)).trans n1
  have bX : Below g w X := bU.trans (hbX.mono (by have := HZ.out; omega))
  obtain ⟨o, c, rfl⟩ := hOX.out.shape
  generalize P.length = n at *
  go_wp2_with (first | (refine wpL_store_row rfl 29 _ _ rfl g #[.bool false, .int .i64 0, .slice none 0 0] rfl rfl 29 _ n0X (by kernel_rfl) rfl (by simp [Value.oneCell']) ?_) | (refine wpL_load_row rfl 29 _ rfl (g + 1) _ 29 (0, 0) _ rfl n1X Tryz.underlying29 rfl (by kernel_rfl) ?_) | go_in)
  exact retWW (x := none) _ rfl n0X bX rfl ⟨_, rfl⟩

set_option maxRecDepth 40000 in
set_option maxHeartbeats 8000000 in
theorem specWordNoEq (s : ByteArray) (w : World) (p0 p1 p2 p3 p4 : List UInt8) (hs : s.size ≤ 75) (h1 : hasPrefix s.data.toList [61, 63] = true) (h2 : hasSuffix s.data.toList [63, 61] = true) (hP : Cu.cut 63 [] s.data.toList = [p0, p1, p2, p3, p4]) (hn : p0 ≠ [61] ∨ (p0 = [61] ∧ p4 ≠ [61])) :
    Calls Tryz.prog 10 #[.string s] w fun e w' => DecOut w.heap.size none e w' ∧ Below w.heap.size w w' := by
  obtain ⟨g, hg⟩ : ∃ g, w.heap.size = g := ⟨_, rfl⟩
  rw [hg]
  obtain ⟨W, hW⟩ : ∃ W, w.alloc (.cells #[.bool false, .int .i64 0, .slice none 0 0] 29) = W := ⟨_, rfl⟩
  have zW : W.heap.size = g + 1 := by rw [← hW, World.size_alloc, hg]
  have r0 : W.heap[g]? = some (.cells #[.bool false, .int .i64 0, .slice none 0 0] 29 (0, 0)) := by rw [← hW, ← hg]; exact heap_allocS _ _
  have bW : Below g w W := by rw [← hW]; exact (Below.refl _ _).alloc (by omega) _
  obtain ⟨V, hV⟩ : ∃ V, W.alloc (.cells #[.bool false, .int .i64 0, .slice none 0 0] 29) = V := ⟨_, rfl⟩
  have zV : V.heap.size = g + 2 := by rw [← hV, World.size_alloc, zW]
  have r1 : V.heap[g + 1]? = some (.cells #[.bool false, .int .i64 0, .slice none 0 0] 29 (0, 0)) := by rw [← hV, ← zW]; exact heap_allocS _ _
  have bV1 : Below (g + 1) W V := by rw [← hV]; exact (Below.refl _ _).alloc (by omega) _
  have n1 := r1
  have n0 : V.heap[g]? = some (.cells #[.bool false, .int .i64 0, .slice none 0 0] 29 (0, 0)) := (bV1.block g (by omega)).trans r0
  have bU : Below g w V := bW.trans (bV1.mono (by omega))
  have HW := mkHid hW
  have HV := mkHid hV
  have HZ := mkHid zV
  have HG := mkHid hg
  clear r0 r1 bW bV1 hW hV zV zW
  have cB := mkHid (fun X => specBeginsW s X)
  have cE := mkHid (fun X => specEndsW s X (by omega))
  have h7 : ¬ (75 : Int) < (s.size : Int) := by omega
  rw [h1] at cB
  rw [h2] at cE
  have cC := mkHid (specCut s 63 V (by omega))
  have hsz := Cu.cut_mem 63 s.data.toList []
  have hll : s.data.toList.length = s.size := by simp
  rw [hP] at cC hsz
  have z1 := hsz p1 (by simp)
  have z3 := hsz p3 (by simp)
  have zz1 : (Cu.mk p1).size ≤ 75 := by show p1.toArray.size ≤ 75; simp at z1 ⊢; omega
  have zz3 : (Cu.mk p3).size ≤ 75 := by show p3.toArray.size ≤ 75; simp at z3 ⊢; omega
  have e0 : (Cu.mk p0).toList = p0 := by rw [ByteArray.toList_eq]; rfl
  have e1 : (Cu.mk p1).data.toList = p1 := rfl
  have e2 : (Cu.mk p2).toList = p2 := by rw [ByteArray.toList_eq]; rfl
  have e3 : (Cu.mk p3).data.toList = p3 := rfl
  have e4 : (Cu.mk p4).toList = p4 := by rw [ByteArray.toList_eq]; rfl
  clear h1 h2 hP
  have hn2 : ((Cu.mk p0).toList == [61]) = false ∨ (((Cu.mk p0).toList == [61]) = true ∧ ((Cu.mk p4).toList == [61]) = false) := by
    rw [e0, e4]
    rcases hn with h | ⟨h, h'⟩
    · exact .inl (beq_eq_false_iff_ne.2 h)
    · exact .inr ⟨by rw [h]; rfl, beq_eq_false_iff_ne.2 h'⟩
  clear hn e0 e1 e2 e3 e4 z1 z3 zz1 zz3 hsz
  go_enter Tryz.func10, Tryz.ntmps10
  go_wp2_with fail
  refine (cB.out _).mono ?_
  rintro e X ⟨rfl, rfl⟩
  clear cB
  go_wp2_with fail
  refine (cE.out _).mono ?_
  rintro e X ⟨rfl, rfl⟩
  clear cE
  go_wp2_with fail
  rw [HW.out, HV.out]
  refine cC.out.mono ?_
  rintro e X ⟨y, rfl, hOX, hbX⟩
  clear cC
  have HOX := hOX
  have zX : g + 2 ≤ X.heap.size := by have := hbX.size; have := HZ.out; omega
  have n0X := (hbX.block g (by have := HZ.out; omega)).trans n0
  have n1X := (hbX.block (g + 1) (by have := HZ.out; omega)).trans n1
  have bX : Below g w X := bU.trans (hbX.mono (by have := HZ.out; omega))
  rcases HOX.out.2 with ⟨-, hx0⟩ | ⟨q, cap, cur, rfl, hq, hrow, -⟩
  · cases hx0
  have k0 : X.cell? ⟨q, 0, none⟩ = some (.string (Cu.mk p0)) := by have := World.ownsRow.cells HOX.out (g := q) rfl 0 (.string (Cu.mk p0)) rfl; exact this
  have k1 : X.cell? ⟨q, 1, none⟩ = some (.string (Cu.mk p1)) := by have := World.ownsRow.cells HOX.out (g := q) rfl 1 (.string (Cu.mk p1)) rfl; exact this
  have k2 : X.cell? ⟨q, 2, none⟩ = some (.string (Cu.mk p2)) := by have := World.ownsRow.cells HOX.out (g := q) rfl 2 (.string (Cu.mk p2)) rfl; exact this
  have k3 : X.cell? ⟨q, 3, none⟩ = some (.string (Cu.mk p3)) := by have := World.ownsRow.cells HOX.out (g := q) rfl 3 (.string (Cu.mk p3)) rfl; exact this
  have k4 : X.cell? ⟨q, 4, none⟩ = some (.string (Cu.mk p4)) := by have := World.ownsRow.cells HOX.out (g := q) rfl 4 (.string (Cu.mk p4)) rfl; exact this
  have hqX : q < X.heap.size := heap_lt hrow
  clear hrow HOX hOX
  simp only [List.map_cons, List.map_nil, List.length_cons, List.length_nil, Nat.zero_add, Nat.reduceAdd]
  rcases hn2 with q0 | ⟨q0, q4⟩
  · go_wp2_with (first | (refine wpL_store_row rfl 29 _ _ rfl g #[.bool false, .int .i64 0, .slice none 0 0] rfl rfl 29 _ n0X (by kernel_rfl) rfl (by simp [Value.oneCell']) ?_) | (refine wpL_load_row rfl 29 _ rfl (g + 1) _ 29 (0, 0) _ rfl n1X Tryz.underlying29 rfl (by kernel_rfl) ?_) | go_in)
    exact retWW (x := none) _ rfl n0X bX rfl ⟨_, rfl⟩
  · go_wp2_with (first | (refine wpL_store_row rfl 29 _ _ rfl g #[.bool false, .int .i64 0, .slice none 0 0] rfl rfl 29 _ n0X (by kernel_rfl) rfl (by simp [Value.oneCell']) ?_) | (refine wpL_load_row rfl 29 _ rfl (g + 1) _ 29 (0, 0) _ rfl n1X Tryz.underlying29 rfl (by kernel_rfl) ?_) | go_in)
    exact retWW (x := none) _ rfl n0X bX rfl ⟨_, rfl⟩
set_option maxRecDepth 40000 in
set_option maxHeartbeats 8000000 in
theorem specWordNoSet (s : ByteArray) (w : World) (p0 p1 p2 p3 p4 : List UInt8) (hs : s.size ≤ 75) (h1 : hasPrefix s.data.toList [61, 63] = true) (h2 : hasSuffix s.data.toList [63, 61] = true) (hP : Cu.cut 63 [] s.data.toList = [p0, p1, p2, p3, p4]) (q0 : p0 = [61]) (q4 : p4 = [61]) (hz : setFrom 0 (lower p1) = 0) :
    Calls Tryz.prog 10 #[.string s] w fun e w' => DecOut w.heap.size none e w' ∧ Below w.heap.size w w' := by
  obtain ⟨g, hg⟩ : ∃ g, w.heap.size = g := ⟨_, rfl⟩
  rw [hg]
  obtain ⟨W, hW⟩ : ∃ W, w.alloc (.cells #[.bool false, .int .i64 0, .slice none 0 0] 29) = W := ⟨_, rfl⟩
  have zW : W.heap.size = g + 1 := by rw [← hW, World.size_alloc, hg]
  have r0 : W.heap[g]? = some (.cells #[.bool false, .int .i64 0, .slice none 0 0] 29 (0, 0)) := by rw [← hW, ← hg]; exact heap_allocS _ _
  have bW : Below g w W := by rw [← hW]; exact (Below.refl _ _).alloc (by omega) _
  obtain ⟨V, hV⟩ : ∃ V, W.alloc (.cells #[.bool false, .int .i64 0, .slice none 0 0] 29) = V := ⟨_, rfl⟩
  have zV : V.heap.size = g + 2 := by rw [← hV, World.size_alloc, zW]
  have r1 : V.heap[g + 1]? = some (.cells #[.bool false, .int .i64 0, .slice none 0 0] 29 (0, 0)) := by rw [← hV, ← zW]; exact heap_allocS _ _
  have bV1 : Below (g + 1) W V := by rw [← hV]; exact (Below.refl _ _).alloc (by omega) _
  have n1 := r1
  have n0 : V.heap[g]? = some (.cells #[.bool false, .int .i64 0, .slice none 0 0] 29 (0, 0)) := (bV1.block g (by omega)).trans r0
  have bU : Below g w V := bW.trans (bV1.mono (by omega))
  have HW := mkHid hW
  have HV := mkHid hV
  have HZ := mkHid zV
  have HG := mkHid hg
  clear r0 r1 bW bV1 hW hV zV zW
  have cB := mkHid (fun X => specBeginsW s X)
  have cE := mkHid (fun X => specEndsW s X (by omega))
  have h7 : ¬ (75 : Int) < (s.size : Int) := by omega
  rw [h1] at cB
  rw [h2] at cE
  have cC := mkHid (specCut s 63 V (by omega))
  have hsz := Cu.cut_mem 63 s.data.toList []
  have hll : s.data.toList.length = s.size := by simp
  rw [hP] at cC hsz
  have z1 := hsz p1 (by simp)
  have z3 := hsz p3 (by simp)
  have zz1 : (Cu.mk p1).size ≤ 75 := by show p1.toArray.size ≤ 75; simp at z1 ⊢; omega
  have zz3 : (Cu.mk p3).size ≤ 75 := by show p3.toArray.size ≤ 75; simp at z3 ⊢; omega
  have e0 : (Cu.mk p0).toList = p0 := by rw [ByteArray.toList_eq]; rfl
  have e1 : (Cu.mk p1).data.toList = p1 := rfl
  have e2 : (Cu.mk p2).toList = p2 := by rw [ByteArray.toList_eq]; rfl
  have e3 : (Cu.mk p3).data.toList = p3 := rfl
  have e4 : (Cu.mk p4).toList = p4 := by rw [ByteArray.toList_eq]; rfl
  clear h1 h2 hP
  replace q0 : ((Cu.mk p0).toList == [61]) = true := by rw [e0, q0]; rfl
  replace q4 : ((Cu.mk p4).toList == [61]) = true := by rw [e4, q4]; rfl
  have cO := mkHid (fun X => specOf (Cu.mk p1) X (by omega))
  rw [e1, hz] at cO
  clear e0 e1 e2 e3 e4 z1 z3 zz1 zz3 hsz
  go_enter Tryz.func10, Tryz.ntmps10
  go_wp2_with fail
  refine (cB.out _).mono ?_
  rintro e X ⟨rfl, rfl⟩
  clear cB
  go_wp2_with fail
  refine (cE.out _).mono ?_
  rintro e X ⟨rfl, rfl⟩
  clear cE
  go_wp2_with fail
  rw [HW.out, HV.out]
  refine cC.out.mono ?_
  rintro e X ⟨y, rfl, hOX, hbX⟩
  clear cC
  have HOX := hOX
  have zX : g + 2 ≤ X.heap.size := by have := hbX.size; have := HZ.out; omega
  have n0X := (hbX.block g (by have := HZ.out; omega)).trans n0
  have n1X := (hbX.block (g + 1) (by have := HZ.out; omega)).trans n1
  have bX : Below g w X := bU.trans (hbX.mono (by have := HZ.out; omega))
  rcases HOX.out.2 with ⟨-, hx0⟩ | ⟨q, cap, cur, rfl, hq, hrow, -⟩
  · cases hx0
  have k0 : X.cell? ⟨q, 0, none⟩ = some (.string (Cu.mk p0)) := by have := World.ownsRow.cells HOX.out (g := q) rfl 0 (.string (Cu.mk p0)) rfl; exact this
  have k1 : X.cell? ⟨q, 1, none⟩ = some (.string (Cu.mk p1)) := by have := World.ownsRow.cells HOX.out (g := q) rfl 1 (.string (Cu.mk p1)) rfl; exact this
  have k2 : X.cell? ⟨q, 2, none⟩ = some (.string (Cu.mk p2)) := by have := World.ownsRow.cells HOX.out (g := q) rfl 2 (.string (Cu.mk p2)) rfl; exact this
  have k3 : X.cell? ⟨q, 3, none⟩ = some (.string (Cu.mk p3)) := by have := World.ownsRow.cells HOX.out (g := q) rfl 3 (.string (Cu.mk p3)) rfl; exact this
  have k4 : X.cell? ⟨q, 4, none⟩ = some (.string (Cu.mk p4)) := by have := World.ownsRow.cells HOX.out (g := q) rfl 4 (.string (Cu.mk p4)) rfl; exact this
  have hqX : q < X.heap.size := heap_lt hrow
  clear hrow HOX hOX
  simp only [List.map_cons, List.map_nil, List.length_cons, List.length_nil, Nat.zero_add, Nat.reduceAdd]
  go_wp2_with fail
  refine (cO.out _).mono ?_
  rintro e Y ⟨rfl, hbY⟩
  have n0Y := (hbY.block g (by omega)).trans n0X
  have n1Y := (hbY.block (g + 1) (by omega)).trans n1X
  have bY : Below g w Y := bX.trans (hbY.mono (by omega))
  go_wp2_with (first | (refine wpL_store_row rfl 29 _ _ rfl g #[.bool false, .int .i64 0, .slice none 0 0] rfl rfl 29 _ n0Y (by kernel_rfl) rfl (by simp [Value.oneCell']) ?_) | (refine wpL_load_row rfl 29 _ rfl (g + 1) _ 29 (0, 0) _ rfl n1Y Tryz.underlying29 rfl (by kernel_rfl) ?_) | go_in)
  exact retWW (x := none) _ rfl n0Y bY rfl ⟨_, rfl⟩
end Go.Proofs.YtgfgondjpfnmiaaGreatDoor
