
/- The program's encoder: a number. -/

/- The program's encoder: a text; what is written. -/

/- The program's walks with an encoder. -/
import Derived.Test.YtillilllceeonaaDoorEwMem
namespace Go.Proofs.YtillilllceeonaaDoor
open Go.RowKit Go.Lib Go.Maps
set_option maxRecDepth 20000 in
set_option maxHeartbeats 8000000 in
theorem encNumber (g B : Nat) (v : Value) (p : List UInt8) (w : World) (hE : Enc g B v p w) (b jo n k : Nat) (lo hi : Int) (hc : w.cell? ⟨b, jo, none⟩ = some (.int .i64 n)) (hb : b < w.heap.size) (hbg : b ≠ g) (hbr : some b ≠ v.ownBlock)
    (h1 : lo ≤ n) (h2 : n ≤ hi) (hk : k ≤ 8) (hp : p.length ≤ 900000) :
    Calls Tryd.prog 97 #[.pointer (some ⟨g, 0, none⟩), .pointer (some ⟨b, jo, none⟩), .int .i64 k, .int .i64 lo, .int .i64 hi] w fun e w' => e = .returned (.tuple #[]) ∧ ∃ v', Enc g B v' (p ++ be k n) w' ∧ Wk g v.ownBlock w w' ∧ Nv w v v' := by
  have cF := mkHid (implFromIn (n : Int) lo hi w h1 h2)
  have HE := mkHid hE
  have Hc := mkHid hc
  clear hE
  have hk0 : (0 : Int) ≤ (k : Int) := by omega
  go_enter Tryd.func97, Tryd.ntmps97
  go_wp2_with fail
  refine cF.out.mono ?_
  rintro e w' ⟨rfl, rfl⟩
  clear cF hc
  go_wp2
  go_loopw [2] (fun sv wr => ∃ (i : Nat) (q : List UInt8) (u : Value), i ≤ k ∧ sv = .int .i64 ((i : Int) - 1) ∧ Hid (q ++ be i n = p ++ be k n) ∧ q.length ≤ 900000 + (k - i) ∧ Hid (Enc g B u q wr) ∧ Hid (Wk g v.ownBlock w wr) ∧ Hid (Nv w v u)) (fun sv _ => (Lib.intOf sv + 1).toNat)
  case atStart => exact ⟨k, p, v, Nat.le_refl _, rfl, mkHid rfl, by omega, HE, mkHid (Wk.refl _ _ _), mkHid (.inl rfl)⟩
  case round =>
    clear HE
    obtain ⟨i, q, u, hi, rfl, hq, hql, HE, HK, HN⟩ := hrel
    by_cases hlt : 0 < i
    · obtain ⟨j, rfl⟩ : ∃ j, i = j + 1 := ⟨i - 1, by omega⟩
      have hcc : (((j + 1 : Nat) : Int) - 1) = (j : Int) := by omega
      rw [hcc]
      have hj0 : (0 : Int) ≤ (j : Int) := by omega
      have hj7 : (j : Int) ≤ 7 := by omega
      clear hcc
      have hqe : Hid ((q ++ [UInt8.ofNat (n / 2 ^ (8 * j))]) ++ be j n = p ++ be k n) := mkHid (by rw [← hq.out, be, List.append_assoc]; rfl)
      have hw8 : IntKind.i64.wrap (8 * (j : Int)) = 8 * (j : Int) := wrap_in _ (by omega) (by omega)
      have hsh : (n : Int) / 2 ^ (8 * (j : Int)).toNat = ((n / 2 ^ (8 * j) : Nat) : Int) := by rw [show (8 * (j : Int)).toNat = 8 * j by omega]; norm_cast
      generalize n / 2 ^ (8 * j) = y at hqe hsh
      have hql2 : q.length ≤ 1000000 := by omega
      obtain ⟨z, hz⟩ : ∃ z : Nat, (UInt8.ofNat y).toNat = z := ⟨_, rfl⟩
      have hzz : z = y % 256 := by rw [← hz]; simp
      have hcv : IntKind.u8.wrap (y : Int) = (z : Int) := by rw [hzz, IntKind.wrap_u8]; omega
      have cg : wr.cell? ⟨g, 0, none⟩ = some u := by simp [World.cell?, HE.out.blk]
      have ca : wr.cell? ⟨b, jo, none⟩ = some (.int .i64 n) := (World.cell?_of_block (a := ⟨b, jo, none⟩) (HK.out.keep b hb hbg hbr)).trans Hc.out
      have hBw : B ≤ wr.heap.size := HE.out.bs
      have hb3 : Below wr.heap.size wr (wr.drew.alloc (.cells #[.int .u8 (z : Int)] 5)) := by
        have := (Below.refl wr.heap.size wr).alloc (Nat.le_refl _) (.cells #[.int .u8 (z : Int)] 5)
        exact ⟨this.os, this.tape, this.output, this.size, this.block⟩
      have hE2 : Hid (Enc g B u q (wr.drew.alloc (.cells #[.int .u8 (z : Int)] 5))) := mkHid (HE.out.below hb3)
      have HO2 : Hid (Own B u q (wr.drew.alloc (.cells #[.int .u8 (z : Int)] 5))) := mkHid hE2.out.own
      have hBs : Hid (B ≤ (wr.drew.alloc (.cells #[.int .u8 (z : Int)] 5)).heap.size) := mkHid hE2.out.bs
      have hnew : Hid ((wr.drew.alloc (.cells #[.int .u8 (z : Int)] 5)).cell? ⟨wr.heap.size, 0, none⟩ = some (.int .u8 ((UInt8.ofNat y).toNat : Int))) := mkHid (by rw [hz]; simp only [World.cell?, show (wr.drew.alloc (.cells #[.int .u8 (z : Int)] 5)).heap[wr.heap.size]? = _ from hp_alloc wr.drew (.cells #[.int .u8 (z : Int)] 5)]; rfl)
      have hfz : Hid (∀ W, (wr.drew.alloc (.cells #[.int .u8 (z : Int)] 5)).grownBy W u.ownBlock → W.heap[g]? = some (.cells #[u, .nilIface] 44 (0, 0))) := mkHid (fun W hG => (hG.block g (Nat.lt_of_lt_of_le hE2.out.lt hE2.out.bs) (fun e => by have := (World.ownsRow.lt hE2.out.own g e.symm).1; have := hE2.out.lt; omega)).trans hE2.out.blk)
      have HKd : Hid (Wk g u.ownBlock wr (wr.drew.alloc (.cells #[.int .u8 (z : Int)] 5)) ∧ Nv wr u u) := mkHid ⟨⟨hb3.os, hb3.tape, hb3.output, hb3.size, fun k hk _ _ => hb3.block k hk⟩, .inl rfl⟩
      have cg2 : (wr.alloc (.cells #[.int .u8 (z : Int)] 5)).cell? ⟨g, 0, none⟩ = some u := by
        have := hE2.out.blk
        simp only [World.cell?] at cg ⊢
        rw [show (wr.alloc (.cells #[.int .u8 (z : Int)] 5)).heap[g]? = some (.cells #[u, .nilIface] 44 (0, 0)) from this]
        rfl
      have hzz2 : (z : Int) ≤ 255 := by omega
      clear hz hzz hb3 hq
      go_wp2
      refine wp_region_any (by kernel_rfl) ?_
      refine wpAny_take (i := 0) (v := .pointer (some ⟨g, 0, none⟩)) rfl (by kernel_rfl) (by kernel_rfl) (by kernel_rfl) (fun _ _ _ h => h) (Or.inl ⟨by rfl, ?_⟩) ?_
      · intro w
        go_simp
        all_goals first | done | (intro h; exfalso; omega) | omega
      go_simp
      refine wpAny_take (i := 1) (v := .pointer (some ⟨g, 0, none⟩)) rfl (by kernel_rfl) (by kernel_rfl) (by kernel_rfl) (fun _ _ _ h => h) (Or.inl ⟨by rfl, ?_⟩) ?_
      · intro w
        go_simp
        all_goals first | done | (intro h; exfalso; omega) | omega
      go_simp
      refine wpAny_take (i := 2) (v := .pointer (some ⟨g, 0, none⟩)) rfl (by kernel_rfl) (by kernel_rfl) (by kernel_rfl) (fun _ _ _ h => h) (Or.inl ⟨by rfl, ?_⟩) ?_
      · intro w
        go_simp
        all_goals first | done | (intro h; exfalso; omega) | omega
      go_simp
      refine wpAny_take (i := 3) (v := .pointer (some ⟨g, 0, none⟩)) rfl (by kernel_rfl) (by kernel_rfl) (by kernel_rfl) (fun _ _ _ h => h) (Or.inl ⟨by rfl, ?_⟩) ?_
      · intro w
        go_simp
        all_goals first | done | (intro h; exfalso; omega) | omega
      go_simp
      refine wpAny_take (i := 5) (v := .pointer (some ⟨b, jo, none⟩)) rfl (by kernel_rfl) (by kernel_rfl) (by kernel_rfl) (fun _ _ _ h => h) (Or.inl ⟨by rfl, ?_⟩) ?_
      · intro w
        go_simp
        all_goals first | done | (intro h; exfalso; omega) | omega
      go_simp
      refine wpAny_take (i := 6) (v := .pointer (some ⟨b, jo, none⟩)) rfl (by kernel_rfl) (by kernel_rfl) (by kernel_rfl) (fun _ _ _ h => h) (Or.inl ⟨by rfl, ?_⟩) ?_
      · intro w
        go_simp
        all_goals first | done | (intro h; exfalso; omega) | omega
      go_simp
      refine wpAny_take (i := 8) (v := .int .i64 (j : Int)) rfl (by kernel_rfl) (by kernel_rfl) (by kernel_rfl) (fun _ _ _ h => h) (Or.inl ⟨by rfl, ?_⟩) ?_
      · intro w
        go_simp
        all_goals first | done | (intro h; exfalso; omega) | omega
      go_simp
      refine wpAny_take (i := 9) (v := .int .i64 (8 * (j : Int))) rfl (by kernel_rfl) (by kernel_rfl) (by kernel_rfl) (fun _ _ _ h => h) (Or.inl ⟨by rfl, ?_⟩) ?_
      · intro w
        go_simp
        all_goals first | done | (intro h; exfalso; omega) | omega
      go_simp
      refine wpAny_ready (rs := [4, 7]) (by kernel_rfl) (by simp) ?_
      refine AllReady.cons rfl (fun K hK => ?_) (AllReady.cons rfl (fun K hK => ?_) AllReady.nil)
      · go_simp
        refine hK _ _ ?_
        clear hK K
        go_simp
        refine wpAny_ready (rs := [7]) (by kernel_rfl) (by simp) ?_
        refine AllReady.cons rfl (fun K hK => ?_) AllReady.nil
        go_simp
        refine hK _ _ ?_
        clear hK K
        go_simp
        refine wpAny_take (i := 10) (v := .int .i64 (y : Int)) rfl (by kernel_rfl) (by kernel_rfl) (by kernel_rfl) (fun _ _ _ h => h) (Or.inl ⟨by rfl, ?_⟩) ?_
        · intro w
          go_simp
          all_goals first | done | (intro h; exfalso; omega) | omega
        go_simp
        refine wpAny_take (i := 11) (v := .int .u8 (z : Int)) rfl (by kernel_rfl) (by kernel_rfl) (by kernel_rfl) (fun _ _ _ h => h) (Or.inl ⟨by rfl, ?_⟩) ?_
        · intro w
          go_simp
          all_goals first | done | (intro h; exfalso; omega) | omega
        go_simp
        refine wpAny_ready (rs := [12]) (by kernel_rfl) (by simp) ?_
        refine AllReady.cons rfl (fun K hK => ?_) AllReady.nil
        go_simp
        refine hK _ _ ?_
        clear hK K
        go_simp
        refine wpAny_ready (rs := [13]) (by kernel_rfl) (by simp) ?_
        refine AllReady.cons rfl (fun K hK => ?_) AllReady.nil
        refine opAppBy _ _ rfl B u q rfl HO2.out (UInt8.ofNat y) wr.heap.size 1 rfl hnew.out (by omega) hBs.out ?_
        intro v6 w6 hO6 hg6 hn6
        obtain ⟨o6, m6, c6, rfl⟩ := ownShape hO6
        have hst := hE2.out.stored hO6 hg6
        have HE6 := mkHid hst.1
        have HK6 := mkHid hst.2
        have HN6 := mkHid hn6
        have z6 : w6.frozen? ⟨g, 0, none⟩ = false := by simp [World.frozen?, hfz.out w6 hg6]
        have cc6 : w6.cell? ⟨g, 0, none⟩ = some u := by simp [World.cell?, hfz.out w6 hg6]
        clear hst hO6 hg6 hn6
        refine hK _ _ ?_
        clear hK K
        go_simp
        refine wpAny_ready (rs := [14]) (by kernel_rfl) (by simp) ?_
        refine AllReady.cons rfl (fun K hK => ?_) AllReady.nil
        go_simp
        refine hK _ _ ?_
        clear hK K
        go_simp
        refine wpAny_ready (rs := [15]) (by kernel_rfl) (by simp) ?_
        refine AllReady.cons rfl (fun K hK => ?_) AllReady.nil
        go_simp
        refine hK _ _ ?_
        clear hK K
        go_simp
        refine wpAny_ready (rs := [16]) (by kernel_rfl) (by simp) ?_
        refine AllReady.cons rfl (fun K hK => ?_) AllReady.nil
        go_simp
        refine hK _ _ ?_
        clear hK K
        go_simp
        refine wpAny_done (by kernel_rfl) ?_ _
        go_wp2
        refine ⟨⟨j, q ++ [UInt8.ofNat y], _, by omega, rfl, hqe.out, by simp; omega, HE6, ?_, ?_⟩, by simp [Lib.intOf]⟩
        · exact mkHid (HK.out.trans HN.out (HKd.out.1.trans HKd.out.2 HK6.out))
        · exact mkHid (HN.out.trans HK.out.size (HKd.out.2.trans HKd.out.1.size HN6.out))
      · go_simp
        refine hK _ _ ?_
        clear hK K
        go_simp
        refine wpAny_take (i := 10) (v := .int .i64 (y : Int)) rfl (by kernel_rfl) (by kernel_rfl) (by kernel_rfl) (fun _ _ _ h => h) (Or.inl ⟨by rfl, ?_⟩) ?_
        · intro w
          go_simp
          all_goals first | done | (intro h; exfalso; omega) | omega
        go_simp
        refine wpAny_take (i := 11) (v := .int .u8 (z : Int)) rfl (by kernel_rfl) (by kernel_rfl) (by kernel_rfl) (fun _ _ _ h => h) (Or.inl ⟨by rfl, ?_⟩) ?_
        · intro w
          go_simp
          all_goals first | done | (intro h; exfalso; omega) | omega
        go_simp
        refine wpAny_ready (rs := [4, 12]) (by kernel_rfl) (by simp) ?_
        refine AllReady.cons rfl (fun K hK => ?_) (AllReady.cons rfl (fun K hK => ?_) AllReady.nil)
        · go_simp
          refine hK _ _ ?_
          clear hK K
          go_simp
          refine wpAny_ready (rs := [12]) (by kernel_rfl) (by simp) ?_
          refine AllReady.cons rfl (fun K hK => ?_) AllReady.nil
          go_simp
          refine hK _ _ ?_
          clear hK K
          go_simp
          refine wpAny_ready (rs := [13]) (by kernel_rfl) (by simp) ?_
          refine AllReady.cons rfl (fun K hK => ?_) AllReady.nil
          refine opAppBy _ _ rfl B u q rfl HO2.out (UInt8.ofNat y) wr.heap.size 1 rfl hnew.out (by omega) hBs.out ?_
          intro v6 w6 hO6 hg6 hn6
          obtain ⟨o6, m6, c6, rfl⟩ := ownShape hO6
          have hst := hE2.out.stored hO6 hg6
          have HE6 := mkHid hst.1
          have HK6 := mkHid hst.2
          have HN6 := mkHid hn6
          have z6 : w6.frozen? ⟨g, 0, none⟩ = false := by simp [World.frozen?, hfz.out w6 hg6]
          have cc6 : w6.cell? ⟨g, 0, none⟩ = some u := by simp [World.cell?, hfz.out w6 hg6]
          clear hst hO6 hg6 hn6
          refine hK _ _ ?_
          clear hK K
          go_simp
          refine wpAny_ready (rs := [14]) (by kernel_rfl) (by simp) ?_
          refine AllReady.cons rfl (fun K hK => ?_) AllReady.nil
          go_simp
          refine hK _ _ ?_
          clear hK K
          go_simp
          refine wpAny_ready (rs := [15]) (by kernel_rfl) (by simp) ?_
          refine AllReady.cons rfl (fun K hK => ?_) AllReady.nil
          go_simp
          refine hK _ _ ?_
          clear hK K
          go_simp
          refine wpAny_ready (rs := [16]) (by kernel_rfl) (by simp) ?_
          refine AllReady.cons rfl (fun K hK => ?_) AllReady.nil
          go_simp
          refine hK _ _ ?_
          clear hK K
          go_simp
          refine wpAny_done (by kernel_rfl) ?_ _
          go_wp2
          refine ⟨⟨j, q ++ [UInt8.ofNat y], _, by omega, rfl, hqe.out, by simp; omega, HE6, ?_, ?_⟩, by simp [Lib.intOf]⟩
          · exact mkHid (HK.out.trans HN.out (HKd.out.1.trans HKd.out.2 HK6.out))
          · exact mkHid (HN.out.trans HK.out.size (HKd.out.2.trans HKd.out.1.size HN6.out))
        · go_simp
          refine hK _ _ ?_
          clear hK K
          go_simp
          refine wpAny_ready (rs := [4]) (by kernel_rfl) (by simp) ?_
          refine AllReady.cons rfl (fun K hK => ?_) AllReady.nil
          go_simp
          refine hK _ _ ?_
          clear hK K
          go_simp
          refine wpAny_ready (rs := [13]) (by kernel_rfl) (by simp) ?_
          refine AllReady.cons rfl (fun K hK => ?_) AllReady.nil
          refine opAppBy _ _ rfl B u q rfl HO2.out (UInt8.ofNat y) wr.heap.size 1 rfl hnew.out (by omega) hBs.out ?_
          intro v6 w6 hO6 hg6 hn6
          obtain ⟨o6, m6, c6, rfl⟩ := ownShape hO6
          have hst := hE2.out.stored hO6 hg6
          have HE6 := mkHid hst.1
          have HK6 := mkHid hst.2
          have HN6 := mkHid hn6
          have z6 : w6.frozen? ⟨g, 0, none⟩ = false := by simp [World.frozen?, hfz.out w6 hg6]
          have cc6 : w6.cell? ⟨g, 0, none⟩ = some u := by simp [World.cell?, hfz.out w6 hg6]
          clear hst hO6 hg6 hn6
          refine hK _ _ ?_
          clear hK K
          go_simp
          refine wpAny_ready (rs := [14]) (by kernel_rfl) (by simp) ?_
          refine AllReady.cons rfl (fun K hK => ?_) AllReady.nil
          go_simp
          refine hK _ _ ?_
          clear hK K
          go_simp
          refine wpAny_ready (rs := [15]) (by kernel_rfl) (by simp) ?_
          refine AllReady.cons rfl (fun K hK => ?_) AllReady.nil
          go_simp
          refine hK _ _ ?_
          clear hK K
          go_simp
          refine wpAny_ready (rs := [16]) (by kernel_rfl) (by simp) ?_
          refine AllReady.cons rfl (fun K hK => ?_) AllReady.nil
          go_simp
          refine hK _ _ ?_
          clear hK K
          go_simp
          refine wpAny_done (by kernel_rfl) ?_ _
          go_wp2
          refine ⟨⟨j, q ++ [UInt8.ofNat y], _, by omega, rfl, hqe.out, by simp; omega, HE6, ?_, ?_⟩, by simp [Lib.intOf]⟩
          · exact mkHid (HK.out.trans HN.out (HKd.out.1.trans HKd.out.2 HK6.out))
          · exact mkHid (HN.out.trans HK.out.size (HKd.out.2.trans HKd.out.1.size HN6.out))
    · skip
      have h0 : i = 0 := by omega
      subst h0
      go_wp2
      refine bodyPost_end (v := .tuple #[]) (results_none Tryd.results97 _ _ _) rfl ⟨rfl, u, ?_, HK.out, HN.out⟩
      have e := hq.out
      rw [be, List.append_nil] at e
      rw [← e]
      exact HE.out
end Go.Proofs.YtillilllceeonaaDoor
namespace Go.Proofs.YtillilllceeonaaDoor
open Go.RowKit Go.Lib Go.Maps
set_option maxRecDepth 20000 in
set_option maxHeartbeats 8000000 in
theorem encBytes (g B : Nat) (v : Value) (p : List UInt8) (w : World) (hE : Enc g B v p w) (b jo : Nat) (t : ByteArray) (n : Int) (hc : w.cell? ⟨b, jo, none⟩ = some (.string t)) (hp : p.length + t.size ≤ 900000) :
    Calls Tryd.prog 96 #[.pointer (some ⟨g, 0, none⟩), .pointer (some ⟨b, jo, none⟩), .int .i64 n] w fun e w' => e = .returned (.tuple #[]) ∧ ∃ v', Enc g B v' (p ++ t.data.toList) w' ∧ Fr g B w w' := by
  have cg : w.cell? ⟨g, 0, none⟩ = some v := by simp [World.cell?, hE.blk]
  have cn : w.cell? ⟨g, 1, none⟩ = some .nilIface := by simp [World.cell?, hE.blk]
  have hb3 : Below w.heap.size w w.drew := (Below.refl w.heap.size w).drew
  have hE2 : Hid (Enc g B v p w.drew) := mkHid (hE.below hb3)
  have HO2 : Hid (Own B v p w.drew) := mkHid hE2.out.own
  have hBs : Hid (B ≤ w.drew.heap.size) := mkHid hE2.out.bs
  have hfz : Hid (∀ W, w.drew.grownBy W v.ownBlock → W.heap[g]? = some (.cells #[v, .nilIface] 44 (0, 0))) := mkHid (fun W hG => (hG.block g (Nat.lt_of_lt_of_le hE2.out.lt hE2.out.bs) (fun e => by have := (World.ownsRow.lt hE2.out.own g e.symm).1; have := hE2.out.lt; omega)).trans hE2.out.blk)
  have hF0 : Hid (Fr g B w w.drew) := mkHid (Fr.of_below hb3 hE.bs)
  clear hE hb3
  go_enter Tryd.func96, Tryd.ntmps96
  go_wp2
  refine wp_region_any (by kernel_rfl) ?_
  refine wpAny_take (i := 0) (v := .pointer (some ⟨g, 0, none⟩)) rfl (by kernel_rfl) (by kernel_rfl) (by kernel_rfl) (fun _ _ _ h => h) (Or.inl ⟨by rfl, ?_⟩) ?_
  · intro w
    go_simp
    all_goals first | done | (intro h; exfalso; omega) | omega
  go_simp
  refine wpAny_take (i := 1) (v := .pointer (some ⟨g, 0, none⟩)) rfl (by kernel_rfl) (by kernel_rfl) (by kernel_rfl) (fun _ _ _ h => h) (Or.inl ⟨by rfl, ?_⟩) ?_
  · intro w
    go_simp
    all_goals first | done | (intro h; exfalso; omega) | omega
  go_simp
  refine wpAny_take (i := 2) (v := .pointer (some ⟨g, 0, none⟩)) rfl (by kernel_rfl) (by kernel_rfl) (by kernel_rfl) (fun _ _ _ h => h) (Or.inl ⟨by rfl, ?_⟩) ?_
  · intro w
    go_simp
    all_goals first | done | (intro h; exfalso; omega) | omega
  go_simp
  refine wpAny_take (i := 3) (v := .pointer (some ⟨g, 0, none⟩)) rfl (by kernel_rfl) (by kernel_rfl) (by kernel_rfl) (fun _ _ _ h => h) (Or.inl ⟨by rfl, ?_⟩) ?_
  · intro w
    go_simp
    all_goals first | done | (intro h; exfalso; omega) | omega
  go_simp
  refine wpAny_take (i := 5) (v := .pointer (some ⟨b, jo, none⟩)) rfl (by kernel_rfl) (by kernel_rfl) (by kernel_rfl) (fun _ _ _ h => h) (Or.inl ⟨by rfl, ?_⟩) ?_
  · intro w
    go_simp
    all_goals first | done | (intro h; exfalso; omega) | omega
  go_simp
  refine wpAny_take (i := 6) (v := .pointer (some ⟨b, jo, none⟩)) rfl (by kernel_rfl) (by kernel_rfl) (by kernel_rfl) (fun _ _ _ h => h) (Or.inl ⟨by rfl, ?_⟩) ?_
  · intro w
    go_simp
    all_goals first | done | (intro h; exfalso; omega) | omega
  go_simp
  refine wpAny_ready (rs := [4, 7]) (by kernel_rfl) (by simp) ?_
  refine AllReady.cons rfl (fun K hK => ?_) (AllReady.cons rfl (fun K hK => ?_) AllReady.nil)
  · go_simp
    refine hK _ _ ?_
    clear hK K
    go_simp
    refine wpAny_ready (rs := [7]) (by kernel_rfl) (by simp) ?_
    refine AllReady.cons rfl (fun K hK => ?_) AllReady.nil
    go_simp
    refine hK _ _ ?_
    clear hK K
    go_simp
    refine wpAny_ready (rs := [8]) (by kernel_rfl) (by simp) ?_
    refine AllReady.cons rfl (fun K hK => ?_) AllReady.nil
    refine opAppTx _ _ rfl B v p rfl HO2.out t rfl (by omega) hBs.out ?_
    intro v6 w6 hO6 hg6
    obtain ⟨o6, m6, c6, rfl⟩ := ownShape hO6
    have hst := hE2.out.stored hO6 hg6
    have HE6 := mkHid hst.1
    have HF6 := mkHid (hF0.out.trans (hst.2.fr hE2.out))
    have z6 : w6.frozen? ⟨g, 0, none⟩ = false := by simp [World.frozen?, hfz.out w6 hg6]
    have cc6 : w6.cell? ⟨g, 0, none⟩ = some v := by simp [World.cell?, hfz.out w6 hg6]
    clear hst hO6 hg6
    refine hK _ _ ?_
    clear hK K
    go_simp
    refine wpAny_ready (rs := [9]) (by kernel_rfl) (by simp) ?_
    refine AllReady.cons rfl (fun K hK => ?_) AllReady.nil
    go_simp
    refine hK _ _ ?_
    clear hK K
    go_simp
    refine wpAny_ready (rs := [10]) (by kernel_rfl) (by simp) ?_
    refine AllReady.cons rfl (fun K hK => ?_) AllReady.nil
    go_simp
    refine hK _ _ ?_
    clear hK K
    go_simp
    refine wpAny_ready (rs := [11]) (by kernel_rfl) (by simp) ?_
    refine AllReady.cons rfl (fun K hK => ?_) AllReady.nil
    go_simp
    refine hK _ _ ?_
    clear hK K
    go_simp
    refine wpAny_done (by kernel_rfl) ?_ _
    refine bodyPost_end (v := .tuple #[]) (results_none Tryd.results96 _ _ _) rfl ⟨rfl, _, HE6.out, HF6.out⟩
  · go_simp
    refine hK _ _ ?_
    clear hK K
    go_simp
    refine wpAny_ready (rs := [4]) (by kernel_rfl) (by simp) ?_
    refine AllReady.cons rfl (fun K hK => ?_) AllReady.nil
    go_simp
    refine hK _ _ ?_
    clear hK K
    go_simp
    refine wpAny_ready (rs := [8]) (by kernel_rfl) (by simp) ?_
    refine AllReady.cons rfl (fun K hK => ?_) AllReady.nil
    refine opAppTx _ _ rfl B v p rfl HO2.out t rfl (by omega) hBs.out ?_
    intro v6 w6 hO6 hg6
    obtain ⟨o6, m6, c6, rfl⟩ := ownShape hO6
    have hst := hE2.out.stored hO6 hg6
    have HE6 := mkHid hst.1
    have HF6 := mkHid (hF0.out.trans (hst.2.fr hE2.out))
    have z6 : w6.frozen? ⟨g, 0, none⟩ = false := by simp [World.frozen?, hfz.out w6 hg6]
    have cc6 : w6.cell? ⟨g, 0, none⟩ = some v := by simp [World.cell?, hfz.out w6 hg6]
    clear hst hO6 hg6
    refine hK _ _ ?_
    clear hK K
    go_simp
    refine wpAny_ready (rs := [9]) (by kernel_rfl) (by simp) ?_
    refine AllReady.cons rfl (fun K hK => ?_) AllReady.nil
    go_simp
    refine hK _ _ ?_
    clear hK K
    go_simp
    refine wpAny_ready (rs := [10]) (by kernel_rfl) (by simp) ?_
    refine AllReady.cons rfl (fun K hK => ?_) AllReady.nil
    go_simp
    refine hK _ _ ?_
    clear hK K
    go_simp
    refine wpAny_ready (rs := [11]) (by kernel_rfl) (by simp) ?_
    refine AllReady.cons rfl (fun K hK => ?_) AllReady.nil
    go_simp
    refine hK _ _ ?_
    clear hK K
    go_simp
    refine wpAny_done (by kernel_rfl) ?_ _
    refine bodyPost_end (v := .tuple #[]) (results_none Tryd.results96 _ _ _) rfl ⟨rfl, _, HE6.out, HF6.out⟩
set_option maxRecDepth 20000 in
theorem encWritten (g B : Nat) (v : Value) (p : List UInt8) (w : World) (hE : Enc g B v p w) :
    Calls Tryd.prog 16 #[.pointer (some ⟨g, 0, none⟩)] w fun e w' => e = .returned (.string ⟨p.toArray⟩) ∧ w = w' := by
  have cg : w.cell? ⟨g, 0, none⟩ = some v := by simp [World.cell?, hE.blk]
  have cn : w.cell? ⟨g, 1, none⟩ = some .nilIface := by simp [World.cell?, hE.blk]
  have hbk := hE.own.back (P := Tryd.prog) 22 9 Tryd.underlying22 Tryd.underlying5 Tryd.underlying9
  clear hE
  go_enter Tryd.func16, Tryd.ntmps16
  go_wp2
  go_ret
  exact ⟨rfl, rfl⟩
end Go.Proofs.YtillilllceeonaaDoor
namespace Go.Proofs.YtillilllceeonaaDoor
open Go.RowKit Go.Lib Go.Maps
set_option maxRecDepth 20000 in
set_option maxHeartbeats 4000000 in
theorem encWord (g B : Nat) (v : Value) (p : List UInt8) (w : World) (hE : Enc g B v p w) (b jo n : Nat) (hc : w.cell? ⟨b, jo, none⟩ = some (.int .i64 n)) (hb : b < B) (hbg : b ≠ g) (hn : n ≤ 4294967295) (hp : p.length ≤ 900000) :
    Calls Tryd.prog 22 #[.iface 46 (.pointer (some ⟨g, 0, none⟩)), .pointer (some ⟨b, jo, none⟩)] w fun e w' => e = .returned (.tuple #[]) ∧ ∃ v', Enc g B v' (p ++ be 4 n) w' ∧ Fr g B w w' := by
  have cN := mkHid (encNumber g B v p w hE b jo n 4 0 4294967295 hc (Nat.lt_of_lt_of_le hb hE.bs) hbg (fun e => by have := (World.ownsRow.lt hE.own b e.symm).1; omega) (by omega) (by omega) (by omega) hp)
  have HE := mkHid hE
  clear hE hc
  go_enter Tryd.func22, Tryd.ntmps22
  go_wp2_with fail
  refine cN.out.mono ?_
  rintro e w' ⟨rfl, v', hE', hK, hN⟩
  go_wp2
  refine bodyPost_end (v := .tuple #[]) (results_none Tryd.results22 _ _ _) rfl ⟨rfl, v', hE', hK.fr HE.out⟩
set_option maxRecDepth 20000 in
set_option maxHeartbeats 4000000 in
theorem encText (g B : Nat) (v : Value) (p : List UInt8) (w : World) (hE : Enc g B v p w) (b jo k : Nat) (m : Nat) (t : ByteArray) (hc : w.cell? ⟨b, jo, none⟩ = some (.string t)) (hb : b < B) (hbg : b ≠ g) (hk : k ≤ 8) (hm : t.size ≤ m) (hm2 : m ≤ 200000) (hp : p.length + 8 + t.size ≤ 900000) :
    Calls Tryd.prog 27 #[.iface 46 (.pointer (some ⟨g, 0, none⟩)), .pointer (some ⟨b, jo, none⟩), .int .i64 k, .int .i64 m] w fun e w' => e = .returned (.tuple #[]) ∧ ∃ v', Enc g B v' (p ++ be k t.size ++ t.data.toList) w' ∧ Fr g B w w' := by
  obtain ⟨W, hW⟩ : ∃ W, W = w.alloc (.cells #[.int .i64 t.size] 2) := ⟨_, rfl⟩
  have hbW : Below w.heap.size w W := by rw [hW]; exact (Below.refl _ _).alloc (Nat.le_refl _) _
  have hE1 := hE.below hbW
  have cL : W.cell? ⟨w.heap.size, 0, none⟩ = some (.int .i64 t.size) := by rw [hW]; simp
  have hLs : w.heap.size < W.heap.size := by rw [hW]; simp
  have hne : some w.heap.size ≠ v.ownBlock := fun e => by have := (World.ownsRow.lt hE.own _ e.symm).2; omega
  have hgL : w.heap.size ≠ g := fun e => by have h1 := hE.lt; have h2 := hE.bs; omega
  have cN := mkHid (encNumber g B v p W hE1 w.heap.size 0 t.size k 0 m cL hLs hgL hne (by omega) (by omega) hk (by omega))
  have hF0 : Hid (Fr g B w W) := mkHid (Fr.of_below hbW hE.bs)
  have Hc := mkHid hc
  have HE1 := mkHid hE1
  have HW := mkHid hW
  have HcL := mkHid cL
  have hBs := hE.bs
  have hLen : t.data.toList.length = t.size := by simp
  clear hE hbW hE1 hW cL
  go_enter Tryd.func27, Tryd.ntmps27
  go_wp2_with fail
  rw [← HW.out]
  refine cN.out.mono ?_
  rintro e W1 ⟨rfl, v1, hE1, hK1, hN1⟩
  have cL1 : W1.cell? ⟨w.heap.size, 0, none⟩ = some (.int .i64 t.size) := (World.cell?_of_block (a := ⟨w.heap.size, 0, none⟩) (hK1.keep _ hLs hgL hne)).trans HcL.out
  have hF1 := mkHid (hF0.out.trans (hK1.fr HE1.out))
  have c1 : W1.cell? ⟨b, jo, none⟩ = some (.string t) := (World.cell?_of_block (a := ⟨b, jo, none⟩) (hF1.out.keep b hb hbg)).trans Hc.out
  have cB := mkHid (encBytes g B v1 (p ++ be k t.size) W1 hE1 b jo t t.size c1 (by simp [be_len]; omega))
  clear hE1 hK1 hN1 c1 hc
  go_wp2_with fail
  refine cB.out.mono ?_
  rintro e W2 ⟨rfl, v2, hE2, hF2⟩
  go_wp2
  refine bodyPost_end (v := .tuple #[]) (results_none Tryd.results27 _ _ _) rfl ⟨rfl, v2, hE2, hF1.out.trans hF2⟩
set_option maxRecDepth 20000 in
set_option maxHeartbeats 4000000 in
theorem encName (g B : Nat) (v : Value) (p : List UInt8) (w : World) (hE : Enc g B v p w) (b jo : Nat) (t : ByteArray) (hc : w.cell? ⟨b, jo, none⟩ = some (.string t)) (hb : b < B) (hbg : b ≠ g) (hm : t.size ≤ 255) (hp : p.length + 8 + t.size ≤ 900000) :
    Calls Tryd.prog 24 #[.iface 46 (.pointer (some ⟨g, 0, none⟩)), .pointer (some ⟨b, jo, none⟩)] w fun e w' => e = .returned (.tuple #[]) ∧ ∃ v', Enc g B v' (p ++ be 1 t.size ++ t.data.toList) w' ∧ Fr g B w w' := by
  have cN := mkHid (encText g B v p w hE b jo 1 255 t hc hb hbg (by omega) hm (by omega) hp)
  clear hE hc
  go_enter Tryd.func24, Tryd.ntmps24
  go_wp2_with fail
  refine cN.out.mono ?_
  rintro e w' ⟨rfl, hR⟩
  have HR := mkHid hR
  clear hR
  go_wp2
  exact bodyPost_end (v := .tuple #[]) (results_none Tryd.results24 _ _ _) rfl ⟨rfl, HR.out⟩
set_option maxRecDepth 20000 in
/-- An append of a make of nothing. -/
theorem run_append_no {P : Program} (w : World) (t tn ty e : TypeId) (i : TypeInfo) (kq kn : IntKind) (ht : P.underlying t = some (.slice e)) (htn : P.underlying tn = some (.int kn)) (hi : P.info? e = some i) (base : Option Addr) (n c : Nat) (h : n ≤ c) :
    (Builtin.append_ #[t, tn] ty #[.slice base n c, .int kq 0]).run P w = .ok (.slice base n c) w := by
  cases base with
  | none => simp [Builtin.append_, run_underlying ht, run_underlying htn, sizeOf, typeInfo, hi, asInt, asIntOf, h, IntKind.wrap_i64]
  | some a => simp [Builtin.append_, run_underlying ht, run_underlying htn, sizeOf, typeInfo, hi, asInt, asIntOf, h, IntKind.wrap_i64, storeCells]
set_option maxRecDepth 20000 in
theorem set_same {w : World} {b jo : Nat} {cs : Array Value} {T : TypeId} {z : Nat × Nat} {x : Value} (h : w.heap[b]? = some (.cells cs T z)) (hj : cs[jo]? = some x) : (w.setCell ⟨b, jo, none⟩ x).heap[b]? = w.heap[b]? := by
  have hlt : jo < cs.size := by
    rcases Nat.lt_or_ge jo cs.size with h1 | h1
    · exact h1
    · rw [Array.getElem?_eq_none h1] at hj; cases hj
  have hx : cs[jo] = x := by rw [Array.getElem?_eq_getElem hlt] at hj; simpa using hj
  have hs : cs.setIfInBounds jo x = cs := by
    apply Array.ext
    · simp
    · intro i h1 h2
      rw [Array.getElem_setIfInBounds]
      split
      · rename_i e; subst e; exact hx.symm
      · rfl
  simp [World.setCell, Array.getElem?_modify, h, hs]
end Go.Proofs.YtillilllceeonaaDoor
