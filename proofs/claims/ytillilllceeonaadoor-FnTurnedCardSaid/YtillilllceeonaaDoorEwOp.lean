
/- The program's lists, with an encoder. -/

/- The program's EncodeOp. -/
import Derived.Test.YtillilllceeonaaDoorEwWalk
import Derived.Lib.AppendZeros
import Derived.OrdersHeld
namespace Go.Proofs.YtillilllceeonaaDoor
open Go.RowKit Go.Lib Go.Maps
/-- The encoder has the bytes p now. -/
def EncR (g B : Nat) (p : List UInt8) (w w' : World) : Prop := ∃ v', Enc g B v' p w' ∧ Fr g B w w'
set_option maxRecDepth 20000 in
set_option maxHeartbeats 8000000 in
theorem encInts (g B : Nat) (v : Value) (p : List UInt8) (w : World) (hE : Enc g B v p w) (b jo k m : Nat) (o : Option Addr) (cap : Nat) (U : List Int) (cs : Array Value) (T : TypeId) (hblk : w.heap[b]? = some (.cells cs T (0, 0))) (hjo : cs[jo]? = some (.slice o U.length cap)) (hcap : U.length ≤ cap)
    (hU : ∀ j (hj : j < U.length), ∃ q, o = some ⟨q, 0, none⟩ ∧ q < B ∧ q ≠ g ∧ w.cell? ⟨q, j, none⟩ = some (.int .i64 U[j])) (hb : b < B) (hbg : b ≠ g) (hUb : ∀ u ∈ U, 0 ≤ u ∧ u ≤ 4294967295) (hm : U.length ≤ m) (hm2 : m ≤ 300) (hk : k ≤ 8) (hp : p.length ≤ 700000) (R : List UInt8) (hR : R = p ++ be k U.length ++ U.flatMap (fun u => be 4 u.toNat)) :
    Calls Tryd.prog 25 #[.iface 46 (.pointer (some ⟨g, 0, none⟩)), .pointer (some ⟨b, jo, none⟩), .int .i64 k, .int .i64 m, .func (.func 22) #[] #[]] w fun e w' => e = .returned (.tuple #[]) ∧ EncR g B R w w' := by
  have HR := mkHid hR
  clear hR
  obtain ⟨i0, hi0, -⟩ := info_parts Tryd.info2
  have hc : w.cell? ⟨b, jo, none⟩ = some (.slice o U.length cap) := by simp [World.cell?, hblk, hjo]
  obtain ⟨W, hW⟩ : ∃ W, W = w.alloc (.cells #[.int .i64 U.length] 2) := ⟨_, rfl⟩
  have hbW : Below w.heap.size w W := by rw [hW]; exact (Below.refl _ _).alloc (Nat.le_refl _) _
  have hE1 := hE.below hbW
  have cL : W.cell? ⟨w.heap.size, 0, none⟩ = some (.int .i64 U.length) := by rw [hW]; simp
  have hLs : w.heap.size < W.heap.size := by rw [hW]; simp
  have hne : some w.heap.size ≠ v.ownBlock := fun e => by have := (World.ownsRow.lt hE.own _ e.symm).2; omega
  have hgL : w.heap.size ≠ g := fun e => by have h1 := hE.lt; have h2 := hE.bs; omega
  have cN := mkHid (encNumber g B v p W hE1 w.heap.size 0 U.length k 0 m cL hLs hgL hne (by omega) (by omega) hk (by omega))
  have hF0 : Hid (Fr g B w W) := mkHid (Fr.of_below hbW hE.bs)
  have Hblk := mkHid hblk
  have Hjo := mkHid hjo
  have HU := mkHid hU
  have HUb := mkHid hUb
  have HE1 := mkHid hE1
  have HW := mkHid hW
  have HcL := mkHid cL
  have hBs := hE.bs
  clear hE hbW hE1 hW cL hblk hjo hU hUb
  go_enter Tryd.func25, Tryd.ntmps25
  go_wp2_with fail
  rw [← HW.out]
  refine cN.out.mono ?_
  rintro e W1 ⟨rfl, v1, hE1, hK1, hN1⟩
  have cL1 : W1.cell? ⟨w.heap.size, 0, none⟩ = some (.int .i64 U.length) := (World.cell?_of_block (a := ⟨w.heap.size, 0, none⟩) (hK1.keep _ hLs hgL hne)).trans HcL.out
  have hF1 := mkHid (hF0.out.trans (hK1.fr HE1.out))
  have HE2 := mkHid hE1
  have hb1 : W1.heap[b]? = some (.cells cs T (0, 0)) := (hF1.out.keep b hb hbg).trans Hblk.out
  have c1 : W1.cell? ⟨b, jo, none⟩ = some (.slice o U.length cap) := by simp [World.cell?, hb1, Hjo.out]
  have z1 : W1.frozen? ⟨b, jo, none⟩ = false := by simp [World.frozen?, hb1]
  obtain ⟨W2, hW2⟩ : ∃ W, W = (W1.setCell ⟨b, jo, none⟩ (.slice o U.length cap)).drew := ⟨_, rfl⟩
  have hs2 : ∀ k : Nat, W2.heap[k]? = W1.heap[k]? := by
    intro k
    rw [hW2]
    by_cases e : k = b
    · subst e
      exact set_same (w := W1) hb1 Hjo.out
    · exact set_other (w := W1) e
  have hsz : W1.heap.size ≤ W2.heap.size := by rw [hW2]; exact (grG_set W1 b jo _).size
  have hb12 : Below W1.heap.size W1 W2 := ⟨by rw [hW2]; rfl, by rw [hW2]; rfl, by rw [hW2]; rfl, hsz, fun k _ => hs2 k⟩
  have HS0 : Hid (W1.drew.cell? ⟨b, jo, none⟩ = some (.slice o U.length cap) ∧ W1.drew.cell? ⟨w.heap.size, 0, none⟩ = some (.int .i64 (U.length : Int))) := mkHid ⟨c1, cL1⟩
  have HS2 : Hid (W2.cell? ⟨b, jo, none⟩ = some (.slice o U.length cap) ∧ W2.cell? ⟨w.heap.size, 0, none⟩ = some (.int .i64 (U.length : Int))) := mkHid ⟨(World.cell?_of_block (a := ⟨b, jo, none⟩) (hs2 b)).trans c1, (World.cell?_of_block (a := ⟨w.heap.size, 0, none⟩) (hs2 _)).trans cL1⟩
  have HE3 := mkHid (HE2.out.below hb12)
  have HF2 := mkHid (hF1.out.trans (Fr.of_below (g := g) hb12 HE2.out.bs))
  have HW2 := mkHid hW2
  have hrun : Hid ((Builtin.append_ #[23, 2] 23 #[.slice o U.length cap, .int .i64 0]).run Tryd.prog W1.drew = .ok (.slice o U.length cap) W1.drew) := mkHid (run_append_no W1.drew _ _ _ _ i0 _ _ Tryd.underlying23 Tryd.underlying2 hi0 o U.length cap hcap)
  clear hE1 hK1 hN1 hb1 hs2 hsz hb12 hW2 HE2 hF1 hF0
  have hsub : IntKind.i64.wrap 0 = 0 := rfl
  go_wp2
  refine wp_region_held (S := fun w' => w'.cell? ⟨b, jo, none⟩ = some (.slice o U.length cap) ∧ w'.cell? ⟨w.heap.size, 0, none⟩ = some (.int .i64 (U.length : Int))) (by kernel_rfl) ?_
  refine wpAnyH_take (i := 0) (v := .pointer (some ⟨b, jo, none⟩)) rfl (by kernel_rfl) (by kernel_rfl) (by kernel_rfl) (fun _ _ _ h => h) (Or.inl ⟨by rfl, ?_⟩) HS0.out ?_
  · intro w s1
    obtain ⟨s1, s2⟩ := s1
    go_simp
    all_goals first | done | (intro h; exfalso; omega) | omega
  go_simp
  refine wpAnyH_take (i := 1) (v := .pointer (some ⟨b, jo, none⟩)) rfl (by kernel_rfl) (by kernel_rfl) (by kernel_rfl) (fun _ _ _ h => h) (Or.inl ⟨by rfl, ?_⟩) HS0.out ?_
  · intro w s1
    obtain ⟨s1, s2⟩ := s1
    go_simp
    all_goals first | done | (intro h; exfalso; omega) | omega
  go_simp
  refine wpAnyH_take (i := 2) (v := .pointer (some ⟨b, jo, none⟩)) rfl (by kernel_rfl) (by kernel_rfl) (by kernel_rfl) (fun _ _ _ h => h) (Or.inl ⟨by rfl, ?_⟩) HS0.out ?_
  · intro w s1
    obtain ⟨s1, s2⟩ := s1
    go_simp
    all_goals first | done | (intro h; exfalso; omega) | omega
  go_simp
  refine wpAnyH_take (i := 3) (v := .slice o U.length cap) rfl (by kernel_rfl) (by kernel_rfl) (by kernel_rfl) (fun _ _ _ h => h) (Or.inl ⟨by rfl, ?_⟩) HS0.out ?_
  · intro w s1
    obtain ⟨s1, s2⟩ := s1
    go_simp
    all_goals first | done | (intro h; exfalso; omega) | omega
  go_simp
  refine wpAnyH_take (i := 4) (v := .int .i64 (U.length : Int)) rfl (by kernel_rfl) (by kernel_rfl) (by kernel_rfl) (fun _ _ _ h => h) (Or.inl ⟨by rfl, ?_⟩) HS0.out ?_
  · intro w s1
    obtain ⟨s1, s2⟩ := s1
    go_simp
    all_goals first | done | (intro h; exfalso; omega) | omega
  go_simp
  refine wpAnyH_take (i := 5) (v := .pointer (some ⟨b, jo, none⟩)) rfl (by kernel_rfl) (by kernel_rfl) (by kernel_rfl) (fun _ _ _ h => h) (Or.inl ⟨by rfl, ?_⟩) HS0.out ?_
  · intro w s1
    obtain ⟨s1, s2⟩ := s1
    go_simp
    all_goals first | done | (intro h; exfalso; omega) | omega
  go_simp
  refine wpAnyH_take (i := 6) (v := .pointer (some ⟨b, jo, none⟩)) rfl (by kernel_rfl) (by kernel_rfl) (by kernel_rfl) (fun _ _ _ h => h) (Or.inl ⟨by rfl, ?_⟩) HS0.out ?_
  · intro w s1
    obtain ⟨s1, s2⟩ := s1
    go_simp
    all_goals first | done | (intro h; exfalso; omega) | omega
  go_simp
  refine wpAnyH_take (i := 7) (v := .slice o U.length cap) rfl (by kernel_rfl) (by kernel_rfl) (by kernel_rfl) (fun _ _ _ h => h) (Or.inl ⟨by rfl, ?_⟩) HS0.out ?_
  · intro w s1
    obtain ⟨s1, s2⟩ := s1
    go_simp
    all_goals first | done | (intro h; exfalso; omega) | omega
  go_simp
  refine wpAnyH_take (i := 8) (v := .int .i64 (U.length : Int)) rfl (by kernel_rfl) (by kernel_rfl) (by kernel_rfl) (fun _ _ _ h => h) (Or.inl ⟨by rfl, ?_⟩) HS0.out ?_
  · intro w s1
    obtain ⟨s1, s2⟩ := s1
    go_simp
    all_goals first | done | (intro h; exfalso; omega) | omega
  go_simp
  refine wpAnyH_take (i := 9) (v := .int .i64 0) rfl (by kernel_rfl) (by kernel_rfl) (by kernel_rfl) (fun _ _ _ h => h) (Or.inl ⟨by rfl, ?_⟩) HS0.out ?_
  · intro w s1
    obtain ⟨s1, s2⟩ := s1
    go_simp
    all_goals first | done | (intro h; exfalso; omega) | omega
  go_simp
  refine wpAnyH_all (rs := [10]) (by kernel_rfl) (by simp) ?_
  intro q hq
  simp only [List.mem_cons, List.not_mem_nil, or_false] at hq
  subst hq
  refine wpOp_step rfl (fun K hK => ?_)
  rw [if_pos (by rfl)]
  refine wp_append_run _ _ _ 23 2 rfl _ _ rfl rfl _ _ hrun.out ?_
  refine hK _ _ ⟨HS0.out, ?_⟩
  clear hK K
  go_simp
  refine wpAnyH_take (i := 11) (v := .pointer (some ⟨b, jo, none⟩)) rfl (by kernel_rfl) (by kernel_rfl) (by kernel_rfl) (fun _ _ _ h => h) (Or.inl ⟨by rfl, ?_⟩) HS0.out ?_
  · intro w s1
    obtain ⟨s1, s2⟩ := s1
    go_simp
    all_goals first | done | (intro h; exfalso; omega) | omega
  go_simp
  refine wpAnyH_all (rs := [12]) (by kernel_rfl) (by simp) ?_
  intro q hq
  simp only [List.mem_cons, List.not_mem_nil, or_false] at hq
  subst hq
  refine wpOp_step rfl (fun K hK => ?_)
  go_simp
  rw [← HW2.out]
  refine hK _ _ ⟨HS2.out, ?_⟩
  clear hK K
  go_simp
  refine wpAnyH_done (by kernel_rfl) ?_ _
  obtain ⟨c2, -⟩ := HS2.out
  clear c1 z1 cL1 hrun HS0
  have HUr : Hid (∀ W', Fr g B w W' → (W'.cell? ⟨b, jo, none⟩ = some (.slice o U.length cap) ∧ ∀ j (hj : j < U.length), ∃ q, o = some ⟨q, 0, none⟩ ∧ q < B ∧ q ≠ g ∧ W'.cell? ⟨q, j, none⟩ = some (.int .i64 U[j]))) := mkHid (by
    intro W' hF
    refine ⟨?_, fun j hj => ?_⟩
    · rw [World.cell?_of_block (a := ⟨b, jo, none⟩) (hF.keep b hb hbg)]
      simp [World.cell?, Hblk.out, Hjo.out]
    · obtain ⟨q, h1, h2, h3, h4⟩ := HU.out j hj
      exact ⟨q, h1, h2, h3, (World.cell?_of_block (a := ⟨q, j, none⟩) (hF.keep q h2 h3)).trans h4⟩)
  have hlb : (be k U.length).length = k := be_len _ _
  clear HU Hblk Hjo HW HcL HW2 HE1 cN
  go_wp2
  go_loopw [36] (fun iv wr => ∃ (i : Nat) (u : Value) (q : List UInt8), i ≤ U.length ∧ iv = .int .i64 i ∧ Hid (q = p ++ be k U.length ++ (U.take i).flatMap (fun u => be 4 u.toNat)) ∧ q.length ≤ 700008 + 300 * i ∧ Hid (Enc g B u q wr) ∧ Hid (Fr g B w wr)) (fun iv _ => U.length - (Lib.intOf iv).toNat)
  case atStart => exact ⟨0, v1, p ++ be k U.length, Nat.zero_le _, rfl, mkHid (by simp), by simp [hlb]; omega, HE3, HF2⟩
  case round =>
    clear HE3 HF2 HS2 c2
    obtain ⟨i, u, q, hi, rfl, hq, hql, HE, HF⟩ := hrel
    obtain ⟨cW, hUw⟩ := HUr.out wr HF.out
    by_cases hlt : i < U.length
    · have hlti : (i : Int) < (U.length : Int) := by omega
      obtain ⟨r, rfl, hr1, hr2, hr3⟩ := hUw i hlt
      have hadd := add_off r i
      have hub := HUb.out U[i] (List.getElem_mem hlt)
      have htk : Hid ((U.take (i + 1)).flatMap (fun u => be 4 u.toNat) = (U.take i).flatMap (fun u => be 4 u.toNat) ++ be 4 U[i].toNat) := mkHid (by rw [List.take_succ_eq_append_getElem hlt, List.flatMap_append]; simp)
      generalize U[i] = x at *
      obtain ⟨y, rfl⟩ : ∃ y : Nat, x = y := ⟨x.toNat, by omega⟩
      have hy : y ≤ 4294967295 := by omega
      have cX := mkHid (encWord g B u q wr HE.out r i y hr3 hr1 hr2 hy (by omega))
      rw [Int.toNat_natCast] at htk
      clear hUw
      go_wp2_with fail
      refine cX.out.mono ?_
      rintro e w6 ⟨rfl, v6, hE6, hF6⟩
      have HE6 := mkHid hE6
      have HF6 := mkHid (HF.out.trans hF6)
      clear hE6 hF6 cX
      go_wp2
      go_roundw
      case rel => exact ⟨i + 1, v6, q ++ be 4 y, by omega, by go_num, mkHid (by rw [htk.out, hq.out]; simp), by simp [be_len]; omega, HE6, HF6⟩
      case measure => simp [Lib.intOf]; omega
    · skip
      have hlti : ¬ (i : Int) < (U.length : Int) := by omega
      have e := hq.out
      rw [List.take_of_length_le (by omega)] at e
      have HE7 : Hid (Enc g B u R wr) := by rw [HR.out, ← e]; exact HE
      clear e hq
      go_wp2
      exact bodyPost_end (v := .tuple #[]) (results_none Tryd.results25 _ _ _) rfl ⟨rfl, ⟨u, HE7.out, HF.out⟩⟩
set_option maxRecDepth 20000 in
set_option maxHeartbeats 8000000 in
theorem encTexts (g B : Nat) (v : Value) (p : List UInt8) (w : World) (hE : Enc g B v p w) (b jo k m : Nat) (o : Option Addr) (cap : Nat) (U : List ByteArray) (cs : Array Value) (T : TypeId) (hblk : w.heap[b]? = some (.cells cs T (0, 0))) (hjo : cs[jo]? = some (.slice o U.length cap)) (hcap : U.length ≤ cap)
    (hU : ∀ j (hj : j < U.length), ∃ q, o = some ⟨q, 0, none⟩ ∧ q < B ∧ q ≠ g ∧ w.cell? ⟨q, j, none⟩ = some (.string U[j])) (hb : b < B) (hbg : b ≠ g) (hUb : ∀ u ∈ U, u.size ≤ 255) (hm : U.length ≤ m) (hm2 : m ≤ 300) (hk : k ≤ 8) (hp : p.length ≤ 700000) (R : List UInt8) (hR : R = p ++ be k U.length ++ U.flatMap (fun u => be 1 u.size ++ u.data.toList)) :
    Calls Tryd.prog 26 #[.iface 46 (.pointer (some ⟨g, 0, none⟩)), .pointer (some ⟨b, jo, none⟩), .int .i64 k, .int .i64 m, .func (.func 24) #[] #[]] w fun e w' => e = .returned (.tuple #[]) ∧ EncR g B R w w' := by
  have HR := mkHid hR
  clear hR
  obtain ⟨i0, hi0, -⟩ := info_parts Tryd.info9X
  have hc : w.cell? ⟨b, jo, none⟩ = some (.slice o U.length cap) := by simp [World.cell?, hblk, hjo]
  obtain ⟨W, hW⟩ : ∃ W, W = w.alloc (.cells #[.int .i64 U.length] 2) := ⟨_, rfl⟩
  have hbW : Below w.heap.size w W := by rw [hW]; exact (Below.refl _ _).alloc (Nat.le_refl _) _
  have hE1 := hE.below hbW
  have cL : W.cell? ⟨w.heap.size, 0, none⟩ = some (.int .i64 U.length) := by rw [hW]; simp
  have hLs : w.heap.size < W.heap.size := by rw [hW]; simp
  have hne : some w.heap.size ≠ v.ownBlock := fun e => by have := (World.ownsRow.lt hE.own _ e.symm).2; omega
  have hgL : w.heap.size ≠ g := fun e => by have h1 := hE.lt; have h2 := hE.bs; omega
  have cN := mkHid (encNumber g B v p W hE1 w.heap.size 0 U.length k 0 m cL hLs hgL hne (by omega) (by omega) hk (by omega))
  have hF0 : Hid (Fr g B w W) := mkHid (Fr.of_below hbW hE.bs)
  have Hblk := mkHid hblk
  have Hjo := mkHid hjo
  have HU := mkHid hU
  have HUb := mkHid hUb
  have HE1 := mkHid hE1
  have HW := mkHid hW
  have HcL := mkHid cL
  have hBs := hE.bs
  clear hE hbW hE1 hW cL hblk hjo hU hUb
  go_enter Tryd.func26, Tryd.ntmps26
  go_wp2_with fail
  rw [← HW.out]
  refine cN.out.mono ?_
  rintro e W1 ⟨rfl, v1, hE1, hK1, hN1⟩
  have cL1 : W1.cell? ⟨w.heap.size, 0, none⟩ = some (.int .i64 U.length) := (World.cell?_of_block (a := ⟨w.heap.size, 0, none⟩) (hK1.keep _ hLs hgL hne)).trans HcL.out
  have hF1 := mkHid (hF0.out.trans (hK1.fr HE1.out))
  have HE2 := mkHid hE1
  have hb1 : W1.heap[b]? = some (.cells cs T (0, 0)) := (hF1.out.keep b hb hbg).trans Hblk.out
  have c1 : W1.cell? ⟨b, jo, none⟩ = some (.slice o U.length cap) := by simp [World.cell?, hb1, Hjo.out]
  have z1 : W1.frozen? ⟨b, jo, none⟩ = false := by simp [World.frozen?, hb1]
  obtain ⟨W2, hW2⟩ : ∃ W, W = (W1.setCell ⟨b, jo, none⟩ (.slice o U.length cap)).drew := ⟨_, rfl⟩
  have hs2 : ∀ k : Nat, W2.heap[k]? = W1.heap[k]? := by
    intro k
    rw [hW2]
    by_cases e : k = b
    · subst e
      exact set_same (w := W1) hb1 Hjo.out
    · exact set_other (w := W1) e
  have hsz : W1.heap.size ≤ W2.heap.size := by rw [hW2]; exact (grG_set W1 b jo _).size
  have hb12 : Below W1.heap.size W1 W2 := ⟨by rw [hW2]; rfl, by rw [hW2]; rfl, by rw [hW2]; rfl, hsz, fun k _ => hs2 k⟩
  have HS0 : Hid (W1.drew.cell? ⟨b, jo, none⟩ = some (.slice o U.length cap) ∧ W1.drew.cell? ⟨w.heap.size, 0, none⟩ = some (.int .i64 (U.length : Int))) := mkHid ⟨c1, cL1⟩
  have HS2 : Hid (W2.cell? ⟨b, jo, none⟩ = some (.slice o U.length cap) ∧ W2.cell? ⟨w.heap.size, 0, none⟩ = some (.int .i64 (U.length : Int))) := mkHid ⟨(World.cell?_of_block (a := ⟨b, jo, none⟩) (hs2 b)).trans c1, (World.cell?_of_block (a := ⟨w.heap.size, 0, none⟩) (hs2 _)).trans cL1⟩
  have HE3 := mkHid (HE2.out.below hb12)
  have HF2 := mkHid (hF1.out.trans (Fr.of_below (g := g) hb12 HE2.out.bs))
  have HW2 := mkHid hW2
  have hrun : Hid ((Builtin.append_ #[24, 2] 24 #[.slice o U.length cap, .int .i64 0]).run Tryd.prog W1.drew = .ok (.slice o U.length cap) W1.drew) := mkHid (run_append_no W1.drew _ _ _ _ i0 _ _ Tryd.underlying24 Tryd.underlying2 hi0 o U.length cap hcap)
  clear hE1 hK1 hN1 hb1 hs2 hsz hb12 hW2 HE2 hF1 hF0
  have hsub : IntKind.i64.wrap 0 = 0 := rfl
  go_wp2
  refine wp_region_held (S := fun w' => w'.cell? ⟨b, jo, none⟩ = some (.slice o U.length cap) ∧ w'.cell? ⟨w.heap.size, 0, none⟩ = some (.int .i64 (U.length : Int))) (by kernel_rfl) ?_
  refine wpAnyH_take (i := 0) (v := .pointer (some ⟨b, jo, none⟩)) rfl (by kernel_rfl) (by kernel_rfl) (by kernel_rfl) (fun _ _ _ h => h) (Or.inl ⟨by rfl, ?_⟩) HS0.out ?_
  · intro w s1
    obtain ⟨s1, s2⟩ := s1
    go_simp
    all_goals first | done | (intro h; exfalso; omega) | omega
  go_simp
  refine wpAnyH_take (i := 1) (v := .pointer (some ⟨b, jo, none⟩)) rfl (by kernel_rfl) (by kernel_rfl) (by kernel_rfl) (fun _ _ _ h => h) (Or.inl ⟨by rfl, ?_⟩) HS0.out ?_
  · intro w s1
    obtain ⟨s1, s2⟩ := s1
    go_simp
    all_goals first | done | (intro h; exfalso; omega) | omega
  go_simp
  refine wpAnyH_take (i := 2) (v := .pointer (some ⟨b, jo, none⟩)) rfl (by kernel_rfl) (by kernel_rfl) (by kernel_rfl) (fun _ _ _ h => h) (Or.inl ⟨by rfl, ?_⟩) HS0.out ?_
  · intro w s1
    obtain ⟨s1, s2⟩ := s1
    go_simp
    all_goals first | done | (intro h; exfalso; omega) | omega
  go_simp
  refine wpAnyH_take (i := 3) (v := .slice o U.length cap) rfl (by kernel_rfl) (by kernel_rfl) (by kernel_rfl) (fun _ _ _ h => h) (Or.inl ⟨by rfl, ?_⟩) HS0.out ?_
  · intro w s1
    obtain ⟨s1, s2⟩ := s1
    go_simp
    all_goals first | done | (intro h; exfalso; omega) | omega
  go_simp
  refine wpAnyH_take (i := 4) (v := .int .i64 (U.length : Int)) rfl (by kernel_rfl) (by kernel_rfl) (by kernel_rfl) (fun _ _ _ h => h) (Or.inl ⟨by rfl, ?_⟩) HS0.out ?_
  · intro w s1
    obtain ⟨s1, s2⟩ := s1
    go_simp
    all_goals first | done | (intro h; exfalso; omega) | omega
  go_simp
  refine wpAnyH_take (i := 5) (v := .pointer (some ⟨b, jo, none⟩)) rfl (by kernel_rfl) (by kernel_rfl) (by kernel_rfl) (fun _ _ _ h => h) (Or.inl ⟨by rfl, ?_⟩) HS0.out ?_
  · intro w s1
    obtain ⟨s1, s2⟩ := s1
    go_simp
    all_goals first | done | (intro h; exfalso; omega) | omega
  go_simp
  refine wpAnyH_take (i := 6) (v := .pointer (some ⟨b, jo, none⟩)) rfl (by kernel_rfl) (by kernel_rfl) (by kernel_rfl) (fun _ _ _ h => h) (Or.inl ⟨by rfl, ?_⟩) HS0.out ?_
  · intro w s1
    obtain ⟨s1, s2⟩ := s1
    go_simp
    all_goals first | done | (intro h; exfalso; omega) | omega
  go_simp
  refine wpAnyH_take (i := 7) (v := .slice o U.length cap) rfl (by kernel_rfl) (by kernel_rfl) (by kernel_rfl) (fun _ _ _ h => h) (Or.inl ⟨by rfl, ?_⟩) HS0.out ?_
  · intro w s1
    obtain ⟨s1, s2⟩ := s1
    go_simp
    all_goals first | done | (intro h; exfalso; omega) | omega
  go_simp
  refine wpAnyH_take (i := 8) (v := .int .i64 (U.length : Int)) rfl (by kernel_rfl) (by kernel_rfl) (by kernel_rfl) (fun _ _ _ h => h) (Or.inl ⟨by rfl, ?_⟩) HS0.out ?_
  · intro w s1
    obtain ⟨s1, s2⟩ := s1
    go_simp
    all_goals first | done | (intro h; exfalso; omega) | omega
  go_simp
  refine wpAnyH_take (i := 9) (v := .int .i64 0) rfl (by kernel_rfl) (by kernel_rfl) (by kernel_rfl) (fun _ _ _ h => h) (Or.inl ⟨by rfl, ?_⟩) HS0.out ?_
  · intro w s1
    obtain ⟨s1, s2⟩ := s1
    go_simp
    all_goals first | done | (intro h; exfalso; omega) | omega
  go_simp
  refine wpAnyH_all (rs := [10]) (by kernel_rfl) (by simp) ?_
  intro q hq
  simp only [List.mem_cons, List.not_mem_nil, or_false] at hq
  subst hq
  refine wpOp_step rfl (fun K hK => ?_)
  rw [if_pos (by rfl)]
  refine wp_append_run _ _ _ 24 2 rfl _ _ rfl rfl _ _ hrun.out ?_
  refine hK _ _ ⟨HS0.out, ?_⟩
  clear hK K
  go_simp
  refine wpAnyH_take (i := 11) (v := .pointer (some ⟨b, jo, none⟩)) rfl (by kernel_rfl) (by kernel_rfl) (by kernel_rfl) (fun _ _ _ h => h) (Or.inl ⟨by rfl, ?_⟩) HS0.out ?_
  · intro w s1
    obtain ⟨s1, s2⟩ := s1
    go_simp
    all_goals first | done | (intro h; exfalso; omega) | omega
  go_simp
  refine wpAnyH_all (rs := [12]) (by kernel_rfl) (by simp) ?_
  intro q hq
  simp only [List.mem_cons, List.not_mem_nil, or_false] at hq
  subst hq
  refine wpOp_step rfl (fun K hK => ?_)
  go_simp
  rw [← HW2.out]
  refine hK _ _ ⟨HS2.out, ?_⟩
  clear hK K
  go_simp
  refine wpAnyH_done (by kernel_rfl) ?_ _
  obtain ⟨c2, -⟩ := HS2.out
  clear c1 z1 cL1 hrun HS0
  have HUr : Hid (∀ W', Fr g B w W' → (W'.cell? ⟨b, jo, none⟩ = some (.slice o U.length cap) ∧ ∀ j (hj : j < U.length), ∃ q, o = some ⟨q, 0, none⟩ ∧ q < B ∧ q ≠ g ∧ W'.cell? ⟨q, j, none⟩ = some (.string U[j]))) := mkHid (by
    intro W' hF
    refine ⟨?_, fun j hj => ?_⟩
    · rw [World.cell?_of_block (a := ⟨b, jo, none⟩) (hF.keep b hb hbg)]
      simp [World.cell?, Hblk.out, Hjo.out]
    · obtain ⟨q, h1, h2, h3, h4⟩ := HU.out j hj
      exact ⟨q, h1, h2, h3, (World.cell?_of_block (a := ⟨q, j, none⟩) (hF.keep q h2 h3)).trans h4⟩)
  have hlb : (be k U.length).length = k := be_len _ _
  clear HU Hblk Hjo HW HcL HW2 HE1 cN
  go_wp2
  go_loopw [36] (fun iv wr => ∃ (i : Nat) (u : Value) (q : List UInt8), i ≤ U.length ∧ iv = .int .i64 i ∧ Hid (q = p ++ be k U.length ++ (U.take i).flatMap (fun u => be 1 u.size ++ u.data.toList)) ∧ q.length ≤ 700008 + 300 * i ∧ Hid (Enc g B u q wr) ∧ Hid (Fr g B w wr)) (fun iv _ => U.length - (Lib.intOf iv).toNat)
  case atStart => exact ⟨0, v1, p ++ be k U.length, Nat.zero_le _, rfl, mkHid (by simp), by simp [hlb]; omega, HE3, HF2⟩
  case round =>
    clear HE3 HF2 HS2 c2
    obtain ⟨i, u, q, hi, rfl, hq, hql, HE, HF⟩ := hrel
    obtain ⟨cW, hUw⟩ := HUr.out wr HF.out
    by_cases hlt : i < U.length
    · have hlti : (i : Int) < (U.length : Int) := by omega
      obtain ⟨r, rfl, hr1, hr2, hr3⟩ := hUw i hlt
      have hadd := add_off r i
      have hub := HUb.out U[i] (List.getElem_mem hlt)
      have htk : Hid ((U.take (i + 1)).flatMap (fun u => be 1 u.size ++ u.data.toList) = (U.take i).flatMap (fun u => be 1 u.size ++ u.data.toList) ++ (be 1 U[i].size ++ U[i].data.toList)) := mkHid (by rw [List.take_succ_eq_append_getElem hlt, List.flatMap_append]; simp)
      generalize U[i] = x at *
      have hx9 : x.data.toList.length = x.size := by simp
      have cX := mkHid (encName g B u q wr HE.out r i x hr3 hr1 hr2 hub (by omega))
      clear hUw
      go_wp2_with fail
      refine cX.out.mono ?_
      rintro e w6 ⟨rfl, v6, hE6, hF6⟩
      have HE6 := mkHid hE6
      have HF6 := mkHid (HF.out.trans hF6)
      clear hE6 hF6 cX
      go_wp2
      go_roundw
      case rel => exact ⟨i + 1, v6, q ++ be 1 x.size ++ x.data.toList, by omega, by go_num, mkHid (by rw [htk.out, hq.out]; simp), by simp [be_len]; omega, HE6, HF6⟩
      case measure => simp [Lib.intOf]; omega
    · skip
      have hlti : ¬ (i : Int) < (U.length : Int) := by omega
      have e := hq.out
      rw [List.take_of_length_le (by omega)] at e
      have HE7 : Hid (Enc g B u R wr) := by rw [HR.out, ← e]; exact HE
      clear e hq
      go_wp2
      exact bodyPost_end (v := .tuple #[]) (results_none Tryd.results26 _ _ _) rfl ⟨rfl, ⟨u, HE7.out, HF.out⟩⟩
end Go.Proofs.YtillilllceeonaaDoor
namespace Go.Proofs.YtillilllceeonaaDoor
open Go.RowKit Go.Lib Go.Maps
set_option maxRecDepth 20000 in
theorem fl_len1 : ∀ U : List Int, (U.flatMap (fun u => be 4 u.toNat)).length = 4 * U.length
  | [] => rfl
  | u :: U => by rw [List.flatMap_cons, List.length_append, be_len, fl_len1 U, List.length_cons]; omega
set_option maxRecDepth 20000 in
theorem fl_len2 : ∀ P : List ByteArray, (∀ x ∈ P, x.size ≤ 255) → (P.flatMap (fun u => be 1 u.size ++ u.data.toList)).length ≤ 256 * P.length
  | [], _ => Nat.le_refl _
  | x :: P, h => by
    have h1 := fl_len2 P fun y hy => h y (List.mem_cons_of_mem _ hy)
    have h2 := h x List.mem_cons_self
    have h3 : x.data.toList.length = x.size := by simp
    rw [List.flatMap_cons, List.length_append, List.length_append, be_len, List.length_cons]
    omega
/-- The operation's bytes. -/
def OpP.enc (q : OpP) : List UInt8 :=
  be 1 q.k.toNat ++ be 1 q.bx.size ++ q.bx.data.toList ++ be 1 q.tt.size ++ q.tt.data.toList ++ be 2 q.U.length ++ q.U.flatMap (fun u => be 4 u.toNat) ++ be 1 q.P.length ++ q.P.flatMap (fun u => be 1 u.size ++ u.data.toList) ++ be 5 q.tm.toNat ++ be 4 q.md.toNat ++ be 3 q.ms.size ++ q.ms.data.toList
/-- All of it is within its bounds. -/
def OpP.full (q : OpP) : Prop := q.inHead ∧ (∀ u ∈ q.U, 0 ≤ u ∧ u ≤ 4294967295) ∧ ∀ x ∈ q.P, x.size ≤ 255
set_option maxRecDepth 20000 in
/-- 271: the fuel of 'nilAhead' and 'method' at the seat. -/
theorem nilEnN (v : Addr) (w : World) : (nilAhead 271 46 (.pointer (some v)) "loop.example/g00013/impl.number").run Tryd.prog w = .ok (some false) w := by kernel_rfl
set_option maxRecDepth 20000 in
theorem nilEnB (v : Addr) (w : World) : (nilAhead 271 46 (.pointer (some v)) "loop.example/g00013/impl.bytes").run Tryd.prog w = .ok (some false) w := by kernel_rfl
set_option maxRecDepth 20000 in
theorem methEnN (v : Value) (w : World) : (method 271 46 v "loop.example/g00013/impl.number").run Tryd.prog w = .ok (97, v) w := by kernel_rfl
set_option maxRecDepth 20000 in
theorem methEnB (v : Value) (w : World) : (method 271 46 v "loop.example/g00013/impl.bytes").run Tryd.prog w = .ok (96, v) w := by kernel_rfl
set_option maxRecDepth 20000 in
theorem entersEnN : ∀ (args : Array Value) (w : World), (callFunc 97 args).run Tryd.prog w = .ok (.enter 97 args) w := Go.Proofs.enters_of Tryd.func97 (by kernel_rfl) rfl
set_option maxRecDepth 20000 in
theorem entersEnB : ∀ (args : Array Value) (w : World), (callFunc 96 args).run Tryd.prog w = .ok (.enter 96 args) w := Go.Proofs.enters_of Tryd.func96 (by kernel_rfl) rfl
set_option maxRecDepth 20000 in
set_option maxHeartbeats 8000000 in
theorem encOp (g B : Nat) (v : Value) (w : World) (hE : Enc g B v [] w) (b : Nat) (q : OpP) (uo fo : Option Addr) (uc fc : Nat)
    (hblk : w.heap[b]? = some (.cells #[.int .i64 q.k, .string q.bx, .string q.tt, .slice uo q.U.length uc, .slice fo q.P.length fc, .int .i64 q.tm, .int .i64 q.md, .string q.ms] 26 (0, 0))) (hb : b < B) (hbg : b ≠ g)
    (hU : ∀ j (hj : j < q.U.length), ∃ r, uo = some ⟨r, 0, none⟩ ∧ r < B ∧ r ≠ g ∧ w.cell? ⟨r, j, none⟩ = some (.int .i64 q.U[j])) (huc : q.U.length ≤ uc)
    (hP : ∀ j (hj : j < q.P.length), ∃ r, fo = some ⟨r, 0, none⟩ ∧ r < B ∧ r ≠ g ∧ w.cell? ⟨r, j, none⟩ = some (.string q.P[j])) (hfc : q.P.length ≤ fc) (h : q.full) (R : List UInt8) (hR : R = q.enc) :
    Calls Tryd.prog 17 #[.iface 46 (.pointer (some ⟨g, 0, none⟩)), .pointer (some ⟨b, 0, none⟩)] w fun e w' => e = .returned (.tuple #[]) ∧ EncR g B R w w' := by
  have HR := mkHid hR
  clear hR
  obtain ⟨k, bx, tt, U, P, tm, md, ms⟩ := q
  obtain ⟨⟨hk1, hk9, hbx, htt, hu, hp, ht0, ht1, hm0, hm1, hms⟩, hUb, hPb⟩ := h
  simp only at hk1 hk9 hbx htt hu hp ht0 ht1 hm0 hm1 hms hU hP hUb hPb hblk huc hfc
  obtain ⟨kn, rfl⟩ : ∃ m : Nat, k = m := ⟨k.toNat, by omega⟩
  obtain ⟨tn, rfl⟩ : ∃ m : Nat, tm = m := ⟨tm.toNat, by omega⟩
  obtain ⟨mn, rfl⟩ : ∃ m : Nat, md = m := ⟨md.toNat, by omega⟩
  have hbxl : bx.data.toList.length = bx.size := by simp
  have httl : tt.data.toList.length = tt.size := by simp
  have hmsl : ms.data.toList.length = ms.size := by simp
  have hfU := fl_len1 U
  have hfP := fl_len2 P hPb
  have HBk : Hid (∀ W', Fr g B w W' → W'.heap[b]? = some (.cells #[.int .i64 (kn : Int), .string bx, .string tt, .slice uo U.length uc, .slice fo P.length fc, .int .i64 (tn : Int), .int .i64 (mn : Int), .string ms] 26 (0, 0))) := mkHid fun W' hF => (hF.keep b hb hbg).trans hblk
  have HUr : Hid (∀ W', Fr g B w W' → ∀ j (hj : j < U.length), ∃ r, uo = some ⟨r, 0, none⟩ ∧ r < B ∧ r ≠ g ∧ W'.cell? ⟨r, j, none⟩ = some (.int .i64 U[j])) := mkHid (by
    intro W' hF j hj
    obtain ⟨r, h1, h2, h3, h4⟩ := hU j hj
    exact ⟨r, h1, h2, h3, (World.cell?_of_block (a := ⟨r, j, none⟩) (hF.keep r h2 h3)).trans h4⟩)
  have HPr : Hid (∀ W', Fr g B w W' → ∀ j (hj : j < P.length), ∃ r, fo = some ⟨r, 0, none⟩ ∧ r < B ∧ r ≠ g ∧ W'.cell? ⟨r, j, none⟩ = some (.string P[j])) := mkHid (by
    intro W' hF j hj
    obtain ⟨r, h1, h2, h3, h4⟩ := hP j hj
    exact ⟨r, h1, h2, h3, (World.cell?_of_block (a := ⟨r, j, none⟩) (hF.keep r h2 h3)).trans h4⟩)
  have hbd : Below w.heap.size w w.drew := (Below.refl w.heap.size w).drew
  have hE0 := hE.below hbd
  have c0 : w.drew.cell? ⟨b, 0, none⟩ = some (.int .i64 (kn : Int)) := (show w.cell? ⟨b, 0, none⟩ = _ by simp [World.cell?, hblk])
  have cA := mkHid (encNumber g B v [] w.drew hE0 b 0 kn 1 1 9 c0 (Nat.lt_of_lt_of_le hb hE0.bs) hbg (fun e => by have := (World.ownsRow.lt hE0.own b e.symm).1; omega) (by omega) (by omega) (by omega) (by simp))
  have HE0 := mkHid hE0
  have HF0 : Hid (Fr g B w w.drew) := mkHid (Fr.of_below hbd hE.bs)
  clear hE hblk hU hP c0 hbd hE0
  go_enter Tryd.func17, Tryd.ntmps17
  go_wp2
  refine wp_region_any (by kernel_rfl) ?_
  refine wpAny_take (i := 0) (v := .iface 46 (.pointer (some ⟨g, 0, none⟩))) rfl (by kernel_rfl) (by kernel_rfl) (by kernel_rfl) (fun _ _ _ h => h) (Or.inl ⟨by rfl, ?_⟩) ?_
  · intro w
    go_simp
    all_goals first | done | (intro h; exfalso; omega) | omega
  go_simp
  refine wpAny_take (i := 1) (v := .pointer (some ⟨b, 0, none⟩)) rfl (by kernel_rfl) (by kernel_rfl) (by kernel_rfl) (fun _ _ _ h => h) (Or.inl ⟨by rfl, ?_⟩) ?_
  · intro w
    go_simp
    all_goals first | done | (intro h; exfalso; omega) | omega
  go_simp
  refine wpAny_take (i := 2) (v := .pointer (some ⟨b, 0, none⟩)) rfl (by kernel_rfl) (by kernel_rfl) (by kernel_rfl) (fun _ _ _ h => h) (Or.inl ⟨by rfl, ?_⟩) ?_
  · intro w
    go_simp
    all_goals first | done | (intro h; exfalso; omega) | omega
  go_simp
  refine wpAny_take (i := 3) (v := .pointer (some ⟨b, 0, none⟩)) rfl (by kernel_rfl) (by kernel_rfl) (by kernel_rfl) (fun _ _ _ h => h) (Or.inl ⟨by rfl, ?_⟩) ?_
  · intro w
    go_simp
    all_goals first | done | (intro h; exfalso; omega) | omega
  go_simp
  refine wpAny_take (i := 4) (v := .func (.method "loop.example/g00013/impl.number") #[.iface 46 (.pointer (some ⟨g, 0, none⟩))] #[]) rfl (by kernel_rfl) (by kernel_rfl) (by kernel_rfl) (fun _ _ _ h => h) (Or.inl ⟨by rfl, ?_⟩) ?_
  · intro w
    go_simp
    all_goals first | done | (intro h; exfalso; omega) | omega
  go_simp
  refine wpAny_ready (rs := [5]) (by kernel_rfl) (by simp) ?_
  refine AllReady.cons rfl (fun K hK => ?_) AllReady.nil
  go_simp
  rw [nilEnN]
  go_simp
  refine hK _ _ ?_
  clear hK K
  go_simp
  refine wpAny_ready (rs := [6]) (by kernel_rfl) (by simp) ?_
  refine AllReady.cons rfl (fun K hK => ?_) AllReady.nil
  go_simp
  refine hK _ _ ?_
  clear hK K
  go_simp
  refine wpAny_ready (rs := [7]) (by kernel_rfl) (by simp) ?_
  refine AllReady.cons rfl (fun K hK => ?_) AllReady.nil
  go_simp
  simp only [methEnN, Result.andThen, entersEnN]
  go_simp
  refine cA.out.mono ?_
  rintro e W1 ⟨rfl, v1, hE1, hK1, hN1⟩
  have HF1 := mkHid (HF0.out.trans (hK1.fr HE0.out))
  have HE1 := mkHid hE1
  have hl1 : ([] ++ be 1 kn).length ≤ 10 := by simp [be_len]
  have e1 : Hid ([] ++ be 1 kn = be 1 kn) := mkHid rfl
  generalize [] ++ be 1 kn = p1 at hl1 HE1 e1 hE1
  have x1 : W1.cell? ⟨b, 1, none⟩ = some (.string bx) := by simp [World.cell?, HBk.out W1 HF1.out]
  have c1 := mkHid (encName g B v1 p1 W1 HE1.out b 1 bx x1 hb hbg (by omega) (by omega))
  clear hE1 hK1 hN1 x1 cA HE0 HF0
  refine hK _ _ ?_
  clear hK K
  go_simp
  refine wpAny_done (by kernel_rfl) ?_ _
  go_wp2_with fail
  refine c1.out.mono ?_
  rintro e W2 ⟨rfl, v2, hE2, hF2⟩
  have HF2 := mkHid (HF1.out.trans hF2)
  have HE2 := mkHid hE2
  have hl2 : (p1 ++ be 1 bx.size ++ bx.data.toList).length ≤ 300 := by simp only [List.length_append, be_len]; omega
  have e2 : Hid (p1 ++ be 1 bx.size ++ bx.data.toList = p1 ++ be 1 bx.size ++ bx.data.toList) := mkHid rfl
  obtain ⟨p2, hp2⟩ : ∃ x, x = p1 ++ be 1 bx.size ++ bx.data.toList := ⟨_, rfl⟩
  rw [← hp2] at hl2 HE2
  clear e2
  have e2 := mkHid hp2
  clear hp2 hE2 hF2 HE1 HF1 c1
  have x2 : W2.cell? ⟨b, 2, none⟩ = some (.string tt) := by simp [World.cell?, HBk.out W2 HF2.out]
  have c2 := mkHid (encName g B v2 p2 W2 HE2.out b 2 tt x2 hb hbg (by omega) (by omega))
  clear x2
  go_wp2_with fail
  refine c2.out.mono ?_
  rintro e W3 ⟨rfl, v3, hE3, hF3⟩
  have HF3 := mkHid (HF2.out.trans hF3)
  have HE3 := mkHid hE3
  have hl3 : (p2 ++ be 1 tt.size ++ tt.data.toList).length ≤ 600 := by simp only [List.length_append, be_len]; omega
  have e3 : Hid (p2 ++ be 1 tt.size ++ tt.data.toList = p2 ++ be 1 tt.size ++ tt.data.toList) := mkHid rfl
  obtain ⟨p3, hp3⟩ : ∃ x, x = p2 ++ be 1 tt.size ++ tt.data.toList := ⟨_, rfl⟩
  rw [← hp3] at hl3 HE3
  clear e3
  have e3 := mkHid hp3
  clear hp3 hE3 hF3 HE2 HF2 c2
  have c3 := mkHid (encInts g B v3 p3 W3 HE3.out b 3 2 300 uo uc U _ _ (HBk.out W3 HF3.out) rfl huc (HUr.out W3 HF3.out) hb hbg hUb (by omega) (by omega) (by omega) (by omega) _ rfl)
  go_wp2_with fail
  refine c3.out.mono ?_
  rintro e W4 ⟨rfl, v4, hE4, hF4⟩
  have HF4 := mkHid (HF3.out.trans hF4)
  have HE4 := mkHid hE4
  have hl4 : (p3 ++ be 2 U.length ++ U.flatMap (fun u => be 4 u.toNat)).length ≤ 2000 := by simp only [List.length_append, be_len]; omega
  have e4 : Hid (p3 ++ be 2 U.length ++ U.flatMap (fun u => be 4 u.toNat) = p3 ++ be 2 U.length ++ U.flatMap (fun u => be 4 u.toNat)) := mkHid rfl
  obtain ⟨p4, hp4⟩ : ∃ x, x = p3 ++ be 2 U.length ++ U.flatMap (fun u => be 4 u.toNat) := ⟨_, rfl⟩
  rw [← hp4] at hl4 HE4
  clear e4
  have e4 := mkHid hp4
  clear hp4 hE4 hF4 HE3 HF3 c3
  have c4 := mkHid (encTexts g B v4 p4 W4 HE4.out b 4 1 255 fo fc P _ _ (HBk.out W4 HF4.out) rfl hfc (HPr.out W4 HF4.out) hb hbg hPb (by omega) (by omega) (by omega) (by omega) _ rfl)
  go_wp2_with fail
  refine c4.out.mono ?_
  rintro e W5 ⟨rfl, v5, hE5, hF5⟩
  have HF5 := mkHid (HF4.out.trans hF5)
  have HE5 := mkHid hE5
  have hl5 : (p4 ++ be 1 P.length ++ P.flatMap (fun u => be 1 u.size ++ u.data.toList)).length ≤ 70000 := by rw [List.length_append, List.length_append, be_len]; omega
  obtain ⟨p5, hp5⟩ : ∃ x, x = p4 ++ be 1 P.length ++ P.flatMap (fun u => be 1 u.size ++ u.data.toList) := ⟨_, rfl⟩
  rw [← hp5] at hl5 HE5
  have e5 := mkHid hp5
  clear hp5 hE5 hF5 HE4 HF4 c4
  have hbd : Below W5.heap.size W5 W5.drew := (Below.refl W5.heap.size W5).drew
  have hE5d := HE5.out.below hbd
  have hF5d := mkHid (HF5.out.trans (Fr.of_below (g := g) hbd HE5.out.bs))
  have x5 : W5.drew.cell? ⟨b, 5, none⟩ = some (.int .i64 (tn : Int)) := (show W5.cell? ⟨b, 5, none⟩ = _ by simp [World.cell?, HBk.out W5 HF5.out])
  have c5 := mkHid (encNumber g B v5 p5 W5.drew hE5d b 5 tn 5 0 253402300799 x5 (Nat.lt_of_lt_of_le hb hE5d.bs) hbg (fun e => by have := (World.ownsRow.lt hE5d.own b e.symm).1; omega) (by omega) (by omega) (by omega) (by omega))
  have HE5d := mkHid hE5d
  clear hE5d hbd x5
  go_wp2
  refine wp_region_any (by kernel_rfl) ?_
  refine wpAny_take (i := 0) (v := .iface 46 (.pointer (some ⟨g, 0, none⟩))) rfl (by kernel_rfl) (by kernel_rfl) (by kernel_rfl) (fun _ _ _ h => h) (Or.inl ⟨by rfl, ?_⟩) ?_
  · intro w
    go_simp
    all_goals first | done | (intro h; exfalso; omega) | omega
  go_simp
  refine wpAny_take (i := 1) (v := .pointer (some ⟨b, 0, none⟩)) rfl (by kernel_rfl) (by kernel_rfl) (by kernel_rfl) (fun _ _ _ h => h) (Or.inl ⟨by rfl, ?_⟩) ?_
  · intro w
    go_simp
    all_goals first | done | (intro h; exfalso; omega) | omega
  go_simp
  refine wpAny_take (i := 2) (v := .pointer (some ⟨b, 0, none⟩)) rfl (by kernel_rfl) (by kernel_rfl) (by kernel_rfl) (fun _ _ _ h => h) (Or.inl ⟨by rfl, ?_⟩) ?_
  · intro w
    go_simp
    all_goals first | done | (intro h; exfalso; omega) | omega
  go_simp
  refine wpAny_take (i := 3) (v := .pointer (some ⟨b, 5, none⟩)) rfl (by kernel_rfl) (by kernel_rfl) (by kernel_rfl) (fun _ _ _ h => h) (Or.inl ⟨by rfl, ?_⟩) ?_
  · intro w
    go_simp
    all_goals first | done | (intro h; exfalso; omega) | omega
  go_simp
  refine wpAny_take (i := 4) (v := .func (.method "loop.example/g00013/impl.number") #[.iface 46 (.pointer (some ⟨g, 0, none⟩))] #[]) rfl (by kernel_rfl) (by kernel_rfl) (by kernel_rfl) (fun _ _ _ h => h) (Or.inl ⟨by rfl, ?_⟩) ?_
  · intro w
    go_simp
    all_goals first | done | (intro h; exfalso; omega) | omega
  go_simp
  refine wpAny_ready (rs := [5]) (by kernel_rfl) (by simp) ?_
  refine AllReady.cons rfl (fun K hK => ?_) AllReady.nil
  go_simp
  rw [nilEnN]
  go_simp
  refine hK _ _ ?_
  clear hK K
  go_simp
  refine wpAny_ready (rs := [6]) (by kernel_rfl) (by simp) ?_
  refine AllReady.cons rfl (fun K hK => ?_) AllReady.nil
  go_simp
  refine hK _ _ ?_
  clear hK K
  go_simp
  refine wpAny_ready (rs := [7]) (by kernel_rfl) (by simp) ?_
  refine AllReady.cons rfl (fun K hK => ?_) AllReady.nil
  go_simp
  simp only [methEnN, Result.andThen, entersEnN]
  go_simp
  refine c5.out.mono ?_
  rintro e W6 ⟨rfl, v6, hE6, hK6, hN6⟩
  have HF6 := mkHid (hF5d.out.trans (hK6.fr HE5d.out))
  have HE6 := mkHid hE6
  have hl6 : (p5 ++ be 5 tn).length ≤ 70010 := by rw [List.length_append, be_len]; omega
  obtain ⟨p6, hp6⟩ : ∃ x, x = p5 ++ be 5 tn := ⟨_, rfl⟩
  rw [← hp6] at hl6 HE6
  have e6 := mkHid hp6
  have x6 : W6.cell? ⟨b, 6, none⟩ = some (.int .i64 (mn : Int)) := by simp [World.cell?, HBk.out W6 HF6.out]
  have c6 := mkHid (encWord g B v6 p6 W6 HE6.out b 6 mn x6 hb hbg (by omega) (by omega))
  clear hp6 hE6 hK6 hN6 HE5 HF5 HE5d hF5d c5 x6
  refine hK _ _ ?_
  clear hK K
  go_simp
  refine wpAny_done (by kernel_rfl) ?_ _
  go_wp2_with fail
  refine c6.out.mono ?_
  rintro e W7 ⟨rfl, v7, hE7, hF7⟩
  have HF7 := mkHid (HF6.out.trans hF7)
  have HE7 := mkHid hE7
  have hl7 : (p6 ++ be 4 mn).length ≤ 70020 := by simp only [List.length_append, be_len]; omega
  have e7 : Hid (p6 ++ be 4 mn = p6 ++ be 4 mn) := mkHid rfl
  obtain ⟨p7, hp7⟩ : ∃ x, x = p6 ++ be 4 mn := ⟨_, rfl⟩
  rw [← hp7] at hl7 HE7
  clear e7
  have e7 := mkHid hp7
  clear hp7 hE7 hF7 HE6 HF6 c6
  have x7 : W7.cell? ⟨b, 7, none⟩ = some (.string ms) := by simp [World.cell?, HBk.out W7 HF7.out]
  have c7 := mkHid (encText g B v7 p7 W7 HE7.out b 7 3 100000 ms x7 hb hbg (by omega) (by omega) (by omega) (by omega))
  clear x7
  go_wp2_with fail
  refine c7.out.mono ?_
  rintro e W8 ⟨rfl, v8, hE8, hF8⟩
  have HF8 := mkHid (HF7.out.trans hF8)
  have HE8 : Hid (Enc g B v8 R W8) := by
    rw [HR.out]
    have e := hE8
    rw [e7.out, e6.out, e5.out, e4.out, e3.out, e2.out, e1.out] at e
    exact mkHid e
  clear hE8 hF8
  go_wp2
  exact bodyPost_end (v := .tuple #[]) (results_none Tryd.results17 _ _ _) rfl ⟨rfl, ⟨v8, HE8.out, HF8.out⟩⟩
end Go.Proofs.YtillilllceeonaaDoor
