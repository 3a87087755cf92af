
/- The walks of a reader of addresses: a group, an entry. -/

/- The walks of a reader of addresses: a list. -/
import Derived.Test.YtadoifnfgoonaaaGreatDoorAdReadB
namespace Go.Proofs.YtadoifnfgoonaaaGreatDoor
open Go.RowKit Go.Lib
set_option maxRecDepth 20000 in
set_option maxHeartbeats 8000000 in
theorem rsGroup {B g k : Nat} {T : List Tk} {s : ByteArray} {q : Nat × Nat} {w : World} (hT : Ts T s) (P K' L : List (Nat × ByteArray)) (nm : ByteArray) (M : List Bx3) (hP : P ≠ []) (hW : P.all isWd = true) (hlen : (phT P).length ≤ 1000) (hn : nm = ⟨(phT P).toArray⟩) (hX : Mbk L K' M) (h : Rs B T g s q (P ++ (5, ⟨#[58]⟩) :: K') k w) (hk : k + M.length ≤ 499) (m : Int) (hm : w.cell? ⟨1, 0, none⟩ = some (.int .i64 m)) (hgm : g ≠ 1) :
    Calls Tryz.prog 86 #[scp g] w fun e w' => ∃ v, e = .returned (.tuple #[.agg #[.bool true, .string nm, .string ⟨#[]⟩, .string ⟨#[]⟩, .string ⟨#[]⟩, v], .nilIface]) ∧ OwnB w.heap.size v M w' ∧ Rs B T g s q L (k + M.length) w' ∧ w.grownBy w' (some g) := by
  have hgl := h.glt
  have hql := h.qlt
  have hml : 1 < w.heap.size := World.block_lt_of_cell? _ _ hm
  obtain ⟨W, hW0⟩ : ∃ W, W = w.alloc (.cells #[.bool false, .string ⟨#[]⟩, .string ⟨#[]⟩, .string ⟨#[]⟩, .string ⟨#[]⟩, .slice none 0 0] 37) := ⟨_, rfl⟩
  have hbW : Below w.heap.size w W := by rw [hW0]; exact (Below.refl _ _).alloc (Nat.le_refl _) _
  have hA0 : W.heap[w.heap.size]? = some (.cells #[.bool false, .string ⟨#[]⟩, .string ⟨#[]⟩, .string ⟨#[]⟩, .string ⟨#[]⟩, .slice none 0 0] 37 (0, 0)) := by rw [hW0]; exact hp_alloc _ _
  have hneg : some w.heap.size ≠ some g := fun e => by have := Option.some.inj e; omega
  have hhd : isWd (hdT (P ++ (5, ⟨#[58]⟩) :: K')) = true := by
    match P, hP with
    | p :: r, _ => exact List.all_eq_true.1 hW p List.mem_cons_self
  have c1 := mkHid (rsSign hT (h.below hbW) ⟨#[58]⟩ false (isWd_sg _ _ hhd))
  have HR := mkHid (h.below hbW)
  have HbW := mkHid hbW
  have HA0 := mkHid hA0
  have HW0 := mkHid hW0
  have HX := mkHid hX
  have HW := mkHid hW
  have Hlen := mkHid hlen
  have Hn := mkHid hn
  have Hm : Hid (∀ W, w.grownBy W (some g) → W.cell? ⟨1, 0, none⟩ = some (.int .i64 m)) := mkHid (fun W hg => (World.cell?_of_block (a := ⟨1, 0, none⟩) (hg.block 1 hml (fun e => hgm (Option.some.inj e).symm))).trans hm)
  clear h hbW hA0 hW0 hhd hX hW hlen hn hm hP
  go_enter Tryz.func86, Tryz.ntmps86
  go_wp2_with fail
  rw [← HW0.out]
  refine c1.out.mono ?_
  rintro e w1 ⟨rfl, hb1⟩
  have HA1 : Hid (w1.heap[w.heap.size]? = some (.cells #[.bool false, .string ⟨#[]⟩, .string ⟨#[]⟩, .string ⟨#[]⟩, .string ⟨#[]⟩, .slice none 0 0] 37 (0, 0))) := mkHid ((hb1.block _ (hp_lt HA0.out)).trans HA0.out)
  have Hb1 := mkHid (HbW.out.trans (hb1.mono HbW.out.size))
  have c2 := mkHid (rsPhrase hT P ((5, ⟨#[58]⟩) :: K') (HR.out.below hb1) HW.out (phSg 58 (by decide)) (Nat.le_trans Hlen.out (by omega)) nm Hn.out)
  clear c1 hb1 HA0 HbW HW0 HR
  go_wp2_with fail
  refine c2.out.mono ?_
  rintro e w2 ⟨rfl, hR2, hg2⟩
  have HA2 : Hid (w2.heap[w.heap.size]? = some (.cells #[.bool false, .string ⟨#[]⟩, .string ⟨#[]⟩, .string ⟨#[]⟩, .string ⟨#[]⟩, .slice none 0 0] 37 (0, 0))) := mkHid ((hg2.block _ (hp_lt HA1.out) hneg).trans HA1.out)
  have Hg2 := mkHid (grown_trans (grown_below Hb1.out) hg2)
  have c3 := mkHid (rsTake hT 5 ⟨#[58]⟩ K' hR2)
  clear c2 hR2 hg2 HA1 Hb1
  go_wp2_with fail
  refine c3.out.mono ?_
  rintro e w3 ⟨a3, rfl, hR3, hg3⟩
  have HA3 : Hid (w3.heap[w.heap.size]? = some (.cells #[.bool false, .string ⟨#[]⟩, .string ⟨#[]⟩, .string ⟨#[]⟩, .string ⟨#[]⟩, .slice none 0 0] 37 (0, 0))) := mkHid ((hg3.block _ (hp_lt HA2.out) hneg).trans HA2.out)
  have Hg3 := mkHid (grown_trans Hg2.out hg3)
  have c4 := mkHid (rsMembers hT K' L M HX.out hR3 hk m (Hm.out w3 Hg3.out) hgm)
  have hw3 : w.heap.size < w3.heap.size := hp_lt HA3.out
  clear c3 hR3 hg3 HA2 Hg2
  go_wp2_with fail
  refine c4.out.mono ?_
  rintro e w4 ⟨v, rfl, hO4, hR4, hg4⟩
  have HA4 : Hid (w4.heap[w.heap.size]? = some (.cells #[.bool false, .string ⟨#[]⟩, .string ⟨#[]⟩, .string ⟨#[]⟩, .string ⟨#[]⟩, .slice none 0 0] 37 (0, 0))) := mkHid ((hg4.block _ (hp_lt HA3.out) hneg).trans HA3.out)
  have Hg4 := mkHid (grown_trans Hg3.out hg4)
  have HR4 := mkHid hR4
  obtain ⟨vo, vc, hv⟩ := hO4.shape
  have HO5 : Hid (OwnB w.heap.size v M (w4.setRow w.heap.size #[.bool true, .string nm, .string ⟨#[]⟩, .string ⟨#[]⟩, .string ⟨#[]⟩, v])) := mkHid (OwnB.base (row_stay hO4 (fun j hj => setRow_other w4 w.heap.size j _ (by have := (World.ownsRow.lt hO4 j hj).1; omega))) (Nat.le_of_lt hw3))
  have hv1 : v.oneCell' = true := by rw [hv]; rfl
  subst hv
  clear c4 hR4 hg4 HA3 Hg3 hO4
  go_wp2_with (refine wpL_store_row rfl 37 _ _ rfl w.heap.size #[.bool true, .string nm, .string ⟨#[]⟩, .string ⟨#[]⟩, .string ⟨#[]⟩, .slice vo M.length vc] rfl rfl 37 _ HA4.out (by kernel_rfl) rfl (by simp [Value.oneCell']) ?_)
  refine bodyPost_ret (v := .tuple #[.agg #[.bool true, .string nm, .string ⟨#[]⟩, .string ⟨#[]⟩, .string ⟨#[]⟩, .slice vo M.length vc], .nilIface]) (results_rowA Tryz.results86 _ _ w.heap.size 37 _ (0, 0) _ _ rfl (setRow_heap _ _ _ _ _ _ HA4.out) Tryz.underlying37 rfl (by kernel_rfl) rfl) rfl ?_
  exact ⟨_, rfl, HO5.out, HR4.out.setRow hgl hql (Nat.le_refl _), gr_setRowA Hg4.out (Nat.le_refl _)⟩
/-- How many boxes an entry has. -/
def En.cnt (e : En) : Nat := if e.grp then e.mem.length else 1
/-- An entry's tokens ahead of L. -/
inductive Enk (L : List (Nat × ByteArray)) : List (Nat × ByteArray) → En → Prop
  | box (K : List (Nat × ByteArray)) (n l d : ByteArray) (hb : Bxk L K n l d) (hok : addrOk n l d = true) : Enk L K ⟨false, ⟨#[]⟩, n, l, d, []⟩
  | group (P K : List (Nat × ByteArray)) (nm : ByteArray) (M : List Bx3) (hP : P ≠ []) (hW : P.all isWd = true) (hlen : (phT P).length ≤ 1000) (hn : nm = ⟨(phT P).toArray⟩) (h : Mbk L K M) : Enk L (P ++ (5, ⟨#[58]⟩) :: K) ⟨true, nm, ⟨#[]⟩, ⟨#[]⟩, ⟨#[]⟩, M⟩
set_option maxRecDepth 20000 in
theorem Bxk.parts {L K : List (Nat × ByteArray)} {n l d : ByteArray} (h : Bxk L K n l d) : ∃ P R c, K = P ++ (5, ⟨#[c]⟩) :: R ∧ P.all isPh = true ∧ (c = 64 ∨ c = 60) := by
  cases h with
  | plain Q K l d h => exact ⟨dotK Q, K ++ L, 64, rfl, dotK_ph Q h.hW, .inl rfl⟩
  | named P Q K n l d hP hW hlen hn h => exact ⟨P, _, 60, rfl, List.all_eq_true.2 fun p hp => isWd_ph p (List.all_eq_true.1 hW p hp), .inr rfl⟩
set_option maxRecDepth 20000 in
set_option maxHeartbeats 8000000 in
theorem rsEntry {B g k : Nat} {T : List Tk} {s : ByteArray} {q : Nat × Nat} {w : World} (hT : Ts T s) (K' L : List (Nat × ByteArray)) (en : En) (hX : Enk L K' en) (h : Rs B T g s q K' k w) (hL : isSg (hdT L) ⟨#[46]⟩ = false) (hk : k + en.cnt ≤ 499) (m : Int) (hm : w.cell? ⟨1, 0, none⟩ = some (.int .i64 m)) (hgm : g ≠ 1) :
    Calls Tryz.prog 53 #[scp g] w fun e w' => ∃ v, e = .returned (.tuple #[.agg #[.bool en.grp, .string en.nm, .string en.n, .string en.l, .string en.d, v], .nilIface]) ∧ OwnB w.heap.size v en.mem w' ∧ Rs B T g s q L (k + en.cnt) w' ∧ w.grownBy w' (some g) := by
  have hgl := h.glt
  have hql := h.qlt
  have hml : 1 < w.heap.size := World.block_lt_of_cell? _ _ hm
  obtain ⟨W, hW0⟩ : ∃ W, W = w.alloc (.cells #[.bool false, .string ⟨#[]⟩, .string ⟨#[]⟩, .string ⟨#[]⟩, .string ⟨#[]⟩, .slice none 0 0] 37) := ⟨_, rfl⟩
  have hbW : Below w.heap.size w W := by rw [hW0]; exact (Below.refl _ _).alloc (Nat.le_refl _) _
  have hA0 : W.heap[w.heap.size]? = some (.cells #[.bool false, .string ⟨#[]⟩, .string ⟨#[]⟩, .string ⟨#[]⟩, .string ⟨#[]⟩, .slice none 0 0] 37 (0, 0)) := by rw [hW0]; exact hp_alloc _ _
  have hneg : some w.heap.size ≠ some g := fun e => by have := Option.some.inj e; omega
  have HbW := mkHid hbW
  have HA0 := mkHid hA0
  have HW0 := mkHid hW0
  have Hm : Hid (∀ W, w.grownBy W (some g) → W.cell? ⟨1, 0, none⟩ = some (.int .i64 m)) := mkHid (fun W hg => (World.cell?_of_block (a := ⟨1, 0, none⟩) (hg.block 1 hml (fun e => hgm (Option.some.inj e).symm))).trans hm)
  have hRW := h.below hbW
  clear h hbW hA0 hW0 hm
  cases hX with
  | box K n l d hb hok =>
    obtain ⟨P, R, c, hK, hP, hc⟩ := hb.parts
    have hRW' : Rs B T g s q (P ++ (5, ⟨#[c]⟩) :: R) k W := by rw [← hK]; exact hRW
    have c1 := mkHid (rsBehind hT P ((5, ⟨#[c]⟩) :: R) hRW' hP 5 ⟨#[c]⟩ rfl (by rcases hc with rfl | rfl <;> exact phSg _ (by decide)))
    have c2 := mkHid (fun (a : Nat) w => implIsSg 5 ⟨#[c]⟩ ⟨#[58]⟩ a false w (by rcases hc with rfl | rfl <;> exact sgNe _ _ (by decide)))
    have HR := mkHid hRW
    have Hb := mkHid hb
    have Hok := mkHid hok
    have HL := mkHid hL
    have hk1 : k < 500 := by have : En.cnt ⟨false, ⟨#[]⟩, n, l, d, []⟩ = 1 := rfl; omega
    clear hRW hRW' hb hok hL hK hP hc hk
    show Calls Tryz.prog 53 #[scp g] w fun e w' => ∃ v, e = .returned (.tuple #[.agg #[.bool false, .string ⟨#[]⟩, .string n, .string l, .string d, v], .nilIface]) ∧ OwnB w.heap.size v [] w' ∧ Rs B T g s q L (k + 1) w' ∧ w.grownBy w' (some g)
    go_enter Tryz.func53, Tryz.ntmps53
    go_wp2_with fail
    rw [← HW0.out]
    refine c1.out.mono ?_
    rintro e w1 ⟨a1, rfl, hb1⟩
    have HA1 : Hid (w1.heap[w.heap.size]? = some (.cells #[.bool false, .string ⟨#[]⟩, .string ⟨#[]⟩, .string ⟨#[]⟩, .string ⟨#[]⟩, .slice none 0 0] 37 (0, 0))) := mkHid ((hb1.block _ (hp_lt HA0.out)).trans HA0.out)
    have Hb1 := mkHid (HbW.out.trans (hb1.mono HbW.out.size))
    have HR1 := mkHid (HR.out.below hb1)
    clear c1 hb1 HA0 HbW HW0 HR
    go_wp2_with fail
    refine (c2.out a1 _).mono ?_
    rintro e w2 ⟨rfl, hb2⟩
    have HA2 : Hid (w2.heap[w.heap.size]? = some (.cells #[.bool false, .string ⟨#[]⟩, .string ⟨#[]⟩, .string ⟨#[]⟩, .string ⟨#[]⟩, .slice none 0 0] 37 (0, 0))) := mkHid ((hb2.block _ (hp_lt HA1.out)).trans HA1.out)
    have Hb2 := mkHid (Hb1.out.trans (hb2.mono Hb1.out.size))
    have c3 := mkHid (rsBox hT K' L n l d Hb.out (HR1.out.below hb2) HL.out hk1 Hok.out m (Hm.out w2 (grown_below Hb2.out)) hgm)
    clear c2 hb2 HA1 Hb1 HR1
    go_wp2_with fail
    refine c3.out.mono ?_
    rintro e w4 ⟨rfl, hR4, hg4⟩
    have HA4 : Hid (w4.heap[w.heap.size]? = some (.cells #[.bool false, .string ⟨#[]⟩, .string ⟨#[]⟩, .string ⟨#[]⟩, .string ⟨#[]⟩, .slice none 0 0] 37 (0, 0))) := mkHid ((hg4.block _ (hp_lt HA2.out) hneg).trans HA2.out)
    have Hg4 := mkHid (grown_trans (grown_below Hb2.out) hg4)
    obtain ⟨W5, hW5⟩ : ∃ W, W = w4.alloc (.cells #[.string n, .string l, .string d] 35) := ⟨_, rfl⟩
    have hb5 : Below w4.heap.size w4 W5 := by rw [hW5]; exact (Below.refl _ _).alloc (Nat.le_refl _) _
    have hB5 : W5.heap[w4.heap.size]? = some (.cells #[.string n, .string l, .string d] 35 (0, 0)) := by rw [hW5]; exact hp_alloc _ _
    have HA5 : Hid (W5.heap[w.heap.size]? = some (.cells #[.bool false, .string ⟨#[]⟩, .string ⟨#[]⟩, .string ⟨#[]⟩, .string ⟨#[]⟩, .slice none 0 0] 37 (0, 0))) := mkHid ((hb5.block _ (hp_lt HA4.out)).trans HA4.out)
    have Hg5 := mkHid (gr_lowB Hg4.out hb5 Hg4.out.size)
    have HR5 := mkHid (hR4.below hb5)
    have HB5 := mkHid hB5
    rw [hW5] at HB5 HA5 HR5 Hg5
    clear c3 hR4 hg4 HA2 Hb2 hb5 hB5 hW5 HA4 Hg4
    go_wp2_with (first | (refine wpL_load_row rfl 35 _ rfl w4.heap.size #[.string n, .string l, .string d] 35 (0, 0) _ rfl HB5.out Tryz.underlying35 rfl (by kernel_rfl) ?_) | (refine wpL_store_row rfl 37 _ _ rfl w.heap.size #[.bool false, .string ⟨#[]⟩, .string n, .string l, .string d, .slice none 0 0] rfl rfl 37 _ HA5.out (by kernel_rfl) rfl (by simp [Value.oneCell']) ?_))
    refine bodyPost_ret (v := .tuple #[.agg #[.bool false, .string ⟨#[]⟩, .string n, .string l, .string d, .slice none 0 0], .nilIface]) (results_rowA Tryz.results53 _ _ w.heap.size 37 _ (0, 0) _ _ rfl (setRow_heap _ _ _ _ _ _ HA5.out) Tryz.underlying37 rfl (by kernel_rfl) rfl) rfl ?_
    exact ⟨_, rfl, OwnB.nil _ _, HR5.out.setRow hgl hql (Nat.le_refl _), gr_setRowA Hg5.out (Nat.le_refl _)⟩
  | group P K nm M hP hW hlen hn hM =>
    have c1 := mkHid (rsBehind hT P ((5, ⟨#[58]⟩) :: K) hRW (List.all_eq_true.2 fun p hp => isWd_ph p (List.all_eq_true.1 hW p hp)) 5 ⟨#[58]⟩ rfl (phSg 58 (by decide)))
    have c2 := mkHid (fun (a : Nat) w => implIsSg 5 ⟨#[58]⟩ ⟨#[58]⟩ a true w (sgEq 58))
    have HR := mkHid hRW
    have HP := mkHid hP
    have HW := mkHid hW
    have Hlen := mkHid hlen
    have Hn := mkHid hn
    have HM := mkHid hM
    have hk1 : k + M.length ≤ 499 := hk
    clear hRW hP hW hlen hn hM hL hk
    show Calls Tryz.prog 53 #[scp g] w fun e w' => ∃ v, e = .returned (.tuple #[.agg #[.bool true, .string nm, .string ⟨#[]⟩, .string ⟨#[]⟩, .string ⟨#[]⟩, v], .nilIface]) ∧ OwnB w.heap.size v M w' ∧ Rs B T g s q L (k + M.length) w' ∧ w.grownBy w' (some g)
    go_enter Tryz.func53, Tryz.ntmps53
    go_wp2_with fail
    rw [← HW0.out]
    refine c1.out.mono ?_
    rintro e w1 ⟨a1, rfl, hb1⟩
    have HA1 : Hid (w1.heap[w.heap.size]? = some (.cells #[.bool false, .string ⟨#[]⟩, .string ⟨#[]⟩, .string ⟨#[]⟩, .string ⟨#[]⟩, .slice none 0 0] 37 (0, 0))) := mkHid ((hb1.block _ (hp_lt HA0.out)).trans HA0.out)
    have Hb1 := mkHid (HbW.out.trans (hb1.mono HbW.out.size))
    have HR1 := mkHid (HR.out.below hb1)
    clear c1 hb1 HA0 HbW HW0 HR
    go_wp2_with fail
    refine (c2.out a1 _).mono ?_
    rintro e w2 ⟨rfl, hb2⟩
    have HA2 : Hid (w2.heap[w.heap.size]? = some (.cells #[.bool false, .string ⟨#[]⟩, .string ⟨#[]⟩, .string ⟨#[]⟩, .string ⟨#[]⟩, .slice none 0 0] 37 (0, 0))) := mkHid ((hb2.block _ (hp_lt HA1.out)).trans HA1.out)
    have Hb2 := mkHid (Hb1.out.trans (hb2.mono Hb1.out.size))
    have hw2 : w.heap.size < w2.heap.size := hp_lt HA2.out
    have c3 := mkHid (rsGroup hT P K L nm M HP.out HW.out Hlen.out Hn.out HM.out (HR1.out.below hb2) hk1 m (Hm.out w2 (grown_below Hb2.out)) hgm)
    clear c2 hb2 HA1 Hb1 HR1
    go_wp2_with fail
    refine c3.out.mono ?_
    rintro e w4 ⟨v, rfl, hO4, hR4, hg4⟩
    have HA4 : Hid (w4.heap[w.heap.size]? = some (.cells #[.bool false, .string ⟨#[]⟩, .string ⟨#[]⟩, .string ⟨#[]⟩, .string ⟨#[]⟩, .slice none 0 0] 37 (0, 0))) := mkHid ((hg4.block _ (hp_lt HA2.out) hneg).trans HA2.out)
    have Hg4 := mkHid (grown_trans (grown_below Hb2.out) hg4)
    have HR4 := mkHid hR4
    obtain ⟨vo, vc, hv⟩ := hO4.shape
    have HO5 : Hid (OwnB w.heap.size v M (w4.setRow w.heap.size #[.bool true, .string nm, .string ⟨#[]⟩, .string ⟨#[]⟩, .string ⟨#[]⟩, v])) := mkHid (OwnB.base (row_stay hO4 (fun j hj => setRow_other w4 w.heap.size j _ (by have := (World.ownsRow.lt hO4 j hj).1; omega))) (Nat.le_of_lt hw2))
    subst hv
    clear c3 hR4 hg4 HA2 Hb2 hO4
    go_wp2_with (refine wpL_store_row rfl 37 _ _ rfl w.heap.size #[.bool true, .string nm, .string ⟨#[]⟩, .string ⟨#[]⟩, .string ⟨#[]⟩, .slice vo M.length vc] rfl rfl 37 _ HA4.out (by kernel_rfl) rfl (by simp [Value.oneCell']) ?_)
    refine bodyPost_ret (v := .tuple #[.agg #[.bool true, .string nm, .string ⟨#[]⟩, .string ⟨#[]⟩, .string ⟨#[]⟩, .slice vo M.length vc], .nilIface]) (results_rowA Tryz.results53 _ _ w.heap.size 37 _ (0, 0) _ _ rfl (setRow_heap _ _ _ _ _ _ HA4.out) Tryz.underlying37 rfl (by kernel_rfl) rfl) rfl ?_
    exact ⟨_, rfl, HO5.out, HR4.out.setRow hgl hql (Nat.le_refl _), gr_setRowA Hg4.out (Nat.le_refl _)⟩
end Go.Proofs.YtadoifnfgoonaaaGreatDoor
namespace Go.Proofs.YtadoifnfgoonaaaGreatDoor
open Go.RowKit Go.Lib
def cntS : List En → Nat
  | [] => 0
  | e :: E => e.cnt + cntS E
set_option maxRecDepth 20000 in
theorem cntS_app (D E : List En) : cntS (D ++ E) = cntS D + cntS E := by
  induction D with
  | nil => simp [cntS]
  | cons a D ih => rw [List.cons_append, cntS, cntS, ih]; omega
/-- A list as tokens. -/
inductive Lsk : List (Nat × ByteArray) → List En → Prop
  | nil : Lsk [] []
  | comma (K : List (Nat × ByteArray)) (E : List En) (h : Lsk K E) : Lsk ((5, ⟨#[44]⟩) :: K) E
  | entry (K R : List (Nat × ByteArray)) (e : En) (E : List En) (he : Enk R K e) (hR : R = [] ∨ hdT R = (5, ⟨#[44]⟩)) (h : Lsk R E) : Lsk K (e :: E)
set_option maxRecDepth 20000 in
theorem Mbk.shorter {L K : List (Nat × ByteArray)} {M : List Bx3} (h : Mbk L K M) : L.length < K.length := by
  induction h with
  | fin => simp
  | comma K M h ih => simp; omega
  | box K R b M hb hok hR h ih => have := hb.shorter; omega
set_option maxRecDepth 20000 in
theorem Enk.shorter {L K : List (Nat × ByteArray)} {e : En} (h : Enk L K e) : L.length < K.length := by
  cases h with
  | box K n l d hb hok => exact hb.shorter
  | group P K nm M hP hW hlen hn h => have := h.shorter; simp; omega
set_option maxRecDepth 20000 in
theorem Enk.hd {L K : List (Nat × ByteArray)} {e : En} (h : Enk L K e) : isWd (hdT K) = true ∧ K.isEmpty = false := by
  cases h with
  | box K n l d hb hok =>
    refine ⟨hb.hd, ?_⟩
    have := hb.shorter
    cases K with
    | nil => simp at this
    | cons p r => rfl
  | group P K nm M hP hW hlen hn h =>
    match P, hP with
    | p :: r, _ => exact ⟨List.all_eq_true.1 hW p List.mem_cons_self, rfl⟩
set_option maxRecDepth 20000 in
theorem six_cells {w : World} {g : Nat} {en : En} {ev : Value} {ty : TypeId} {f : Nat × Nat} (h : w.heap[g]? = some (.cells #[.bool en.grp, .string en.nm, .string en.n, .string en.l, .string en.d, ev] ty f)) : ∀ j u, (enCells [(en, ev)])[j]? = some u → w.cell? ((⟨g, 0, none⟩ : Addr).add j) = some u := by
  intro j u hj
  rw [Addr.add_lit, Nat.zero_add]
  match j, hj with
  | 0, hj => cases hj; simp [World.cell?, h]
  | 1, hj => cases hj; simp [World.cell?, h]
  | 2, hj => cases hj; simp [World.cell?, h]
  | 3, hj => cases hj; simp [World.cell?, h]
  | 4, hj => cases hj; simp [World.cell?, h]
  | 5, hj => cases hj; simp [World.cell?, h]
set_option maxRecDepth 20000 in
theorem Ens.nilE (B : Nat) (w : World) : Ens B (.slice none 0 0) [] w := ⟨World.ownsRow_nil _ _ _ _, fun _ h => by simp at h⟩
set_option maxRecDepth 20000 in
theorem Ens.baseE {B B' : Nat} {v : Value} {E : List EnE} {w : World} (h : Ens B v E w) (hB : B' ≤ B) : Ens B' v E w := by
  refine ⟨?_, fun e he => (h.own e he).base hB⟩
  obtain ⟨h1, h2⟩ := h.row
  refine ⟨h1, ?_⟩
  rcases h2 with h2 | ⟨k, cap, cur, e, hk, r⟩
  · exact .inl h2
  · exact .inr ⟨k, cap, cur, e, by omega, r⟩
set_option maxRecDepth 20000 in
set_option maxHeartbeats 8000000 in
theorem rsRead (g : Nat) (s : ByteArray) (T : List Tk) (Es : List En) (w : World) (hs : s.size ≤ 4000) (hcl : Clean s) (hTk : Toks s 0 T) (hT : Ts T s) (hne : T ≠ []) (hX : Lsk (Kt T 0) Es) (hcnt : cntS Es ≤ 499) (hEl : Es.length ≤ 5000) (h : w.heap[g]? = some (.cells #[.string s, .int .i64 0, .int .i64 0, .slice none 0 0, .int .i64 0, .int .i64 0] 58)) (m : Int) (hm : w.cell? ⟨1, 0, none⟩ = some (.int .i64 m)) (hgm : g ≠ 1) :
    Calls Tryz.prog 29 #[scp g] w fun e w' => ∃ v D, e = .returned (.tuple #[v, .nilIface]) ∧ D.map (·.1) = Es ∧ Ens w.heap.size v D w' ∧ w.grownBy w' (some g) := by
  have hgl := hp_lt h
  have hml : 1 < w.heap.size := World.block_lt_of_cell? _ _ hm
  have hbd : Below w.heap.size w w.drew := (Below.refl _ _).drew
  have c1 := mkHid (implScan g s T w.drew hs hcl hTk h)
  have Hm : Hid (∀ W, w.grownBy W (some g) → W.cell? ⟨1, 0, none⟩ = some (.int .i64 m)) := mkHid (fun W hg => (World.cell?_of_block (a := ⟨1, 0, none⟩) (hg.block 1 hml (fun e => hgm (Option.some.inj e).symm))).trans hm)
  have HX := mkHid hX
  have Hcnt := mkHid hcnt
  have Hne := mkHid hne
  have Hbd := mkHid hbd
  clear h hm hX hcnt hne hTk hcl hbd
  go_enter Tryz.func29, Tryz.ntmps29
  go_wp2
  refine wp_region_any (by kernel_rfl) ?_
  refine wpAny_take (i := 0) (v := scp g) rfl (by kernel_rfl) (by kernel_rfl) (by kernel_rfl) (fun _ _ _ h => h) (Or.inl ⟨by rfl, ?_⟩) ?_
  · intro w
    go_simp
    all_goals first | done | (intro h; exfalso; omega) | omega
  go_simp
  refine wpAny_take (i := 1) (v := scp g) rfl (by kernel_rfl) (by kernel_rfl) (by kernel_rfl) (fun _ _ _ h => h) (Or.inl ⟨by rfl, ?_⟩) ?_
  · intro w
    go_simp
    all_goals first | done | (intro h; exfalso; omega) | omega
  go_simp
  refine wpAny_take (i := 2) (v := scp g) rfl (by kernel_rfl) (by kernel_rfl) (by kernel_rfl) (fun _ _ _ h => h) (Or.inl ⟨by rfl, ?_⟩) ?_
  · intro w
    go_simp
    all_goals first | done | (intro h; exfalso; omega) | omega
  go_simp
  refine wpAny_take (i := 3) (v := scp g) rfl (by kernel_rfl) (by kernel_rfl) (by kernel_rfl) (fun _ _ _ h => h) (Or.inl ⟨by rfl, ?_⟩) ?_
  · intro w
    go_simp
    all_goals first | done | (intro h; exfalso; omega) | omega
  go_simp
  refine wpAny_take (i := 4) (v := scp g) rfl (by kernel_rfl) (by kernel_rfl) (by kernel_rfl) (fun _ _ _ h => h) (Or.inl ⟨by rfl, ?_⟩) ?_
  · intro w
    go_simp
    all_goals first | done | (intro h; exfalso; omega) | omega
  go_simp
  refine wpAny_take (i := 5) (v := scp g) rfl (by kernel_rfl) (by kernel_rfl) (by kernel_rfl) (fun _ _ _ h => h) (Or.inl ⟨by rfl, ?_⟩) ?_
  · intro w
    go_simp
    all_goals first | done | (intro h; exfalso; omega) | omega
  go_simp
  refine wpAny_take (i := 6) (v := scp g) rfl (by kernel_rfl) (by kernel_rfl) (by kernel_rfl) (fun _ _ _ h => h) (Or.inl ⟨by rfl, ?_⟩) ?_
  · intro w
    go_simp
    all_goals first | done | (intro h; exfalso; omega) | omega
  go_simp
  refine wpAny_ready (rs := [7]) (by kernel_rfl) (by simp) ?_
  refine AllReady.cons rfl (fun K hK => ?_) AllReady.nil
  go_simp
  refine hK _ _ ?_
  clear hK K
  go_simp
  refine wpAny_ready (rs := [8]) (by kernel_rfl) (by simp) ?_
  refine AllReady.cons rfl (fun K hK => ?_) AllReady.nil
  go_simp
  refine c1.out.mono ?_
  rintro e w2 ⟨rfl, v, hO2, hD2, hg2⟩
  obtain ⟨q, hq⟩ : ∃ q : Nat × Nat, v = .slice (some ⟨q.1, 0, none⟩) T.length q.2 := by
    rcases hO2.form with ⟨-, e⟩ | ⟨g', cap, e⟩
    · exact absurd e Hne.out
    · exact ⟨(g', cap), e⟩
  subst hq
  have hR2 : Rs w.heap.size T g s q (Kt T 0) 0 w2 := ⟨0, rfl, Nat.zero_le _, ⟨hD2, hO2, hgl⟩⟩
  have HR2 := mkHid hR2
  have hg2l := hR2.glt
  have hq2l := hR2.qlt
  have Hg2 := mkHid (grown_trans (grown_below Hbd.out) hg2)
  have hs2 := Hg2.out.size
  refine hK _ _ ?_
  clear hK K hO2 hD2 hg2 c1 hR2 Hbd
  go_simp
  refine wpAny_take (i := 9) (v := .nilIface) rfl (by kernel_rfl) (by kernel_rfl) (by kernel_rfl) (fun _ _ _ h => h) (Or.inl ⟨by rfl, ?_⟩) ?_
  · intro w
    go_simp
    all_goals first | done | (intro h; exfalso; omega) | omega
  go_simp
  refine wpAny_done (by kernel_rfl) ?_ _
  go_wp2
  go_loopw [5] (fun v wr => ∃ (D : List EnE) (E : List En) (K : List (Nat × ByteArray)), Hid (D.map (·.1) ++ E = Es) ∧ Hid (Lsk K E) ∧ Hid (Ens w2.heap.size v D wr) ∧ Hid (Rs w.heap.size T g s q K (cntS (D.map (·.1))) wr) ∧ Hid (w2.grownBy wr (some g))) (fun _ wr => T.length - nextOf wr g)
  case atStart => exact ⟨[], Es, _, rfl, HX, Ens.nilE _ _, HR2, grown_refl _ _⟩
  case round =>
    clear HR2 HX
    obtain ⟨D, E, K, HDE, HX, Hown, HR, Hgr⟩ := hrel
    have Hmeas : Hid (T.length - nextOf wr g = K.length) := mkHid HR.out.next
    have hwr : w2.heap.size ≤ wr.heap.size := Hgr.out.size
    cases HX.out with
    | nil =>
      have cO := mkHid (rsOver hT HR.out true rfl)
      have hDM : D.map (·.1) = Es := by simpa using HDE.out
      have HDM := mkHid hDM
      clear HX HDE Hmeas hDM
      go_wp2_with fail
      refine cO.out.mono ?_
      rintro e w3 ⟨rfl, hb3⟩
      have HO3 := mkHid ((Hown.out.below hb3).baseE hs2)
      have Hg3 := mkHid (grown_trans Hg2.out (gr_lowB Hgr.out hb3 hwr))
      clear cO hb3 Hown Hgr HR
      go_wp2
      refine bodyPost_ret (v := .tuple #[u5, .nilIface]) (by rw [results_tmp2 Tryz.results29]; rfl) rfl ?_
      exact ⟨u5, D, rfl, HDM.out, HO3.out, Hg3.out⟩
    | comma K2 E2 h2 =>
      have cO := mkHid (rsOver hT HR.out false rfl)
      have H2 := mkHid h2
      clear HX h2
      go_wp2_with fail
      refine cO.out.mono ?_
      rintro e w3 ⟨rfl, hb3⟩
      have HO3 := mkHid (Hown.out.below hb3)
      have Hg3 := mkHid (gr_lowB Hgr.out hb3 hwr)
      have cY := mkHid (rsTakeYes hT ⟨#[44]⟩ K2 (HR.out.below hb3))
      clear cO hb3 Hown Hgr HR
      go_wp2_with fail
      refine cY.out.mono ?_
      rintro e w4 ⟨rfl, hR4, hg4⟩
      have HR4 := mkHid hR4
      have HO4 := mkHid (HO3.out.gr hg4 hg2l)
      have Hg4 := mkHid (grown_trans Hg3.out hg4)
      clear cY hR4 hg4 HO3 Hg3
      go_wp2
      refine ⟨⟨D, E, K2, HDE, H2, HO4, HR4, Hg4⟩, ?_⟩
      rw [HR4.out.next, Hmeas.out, List.length_cons]
      omega
    | entry K2 R en E2 he hRh h2 =>
      have hhd := he.hd
      have hc1 : cntS (D.map (·.1)) + en.cnt ≤ 499 := by
        have h5 := Hcnt.out
        rw [← HDE.out, cntS_app, cntS] at h5
        omega
      have hDl : D.length ≤ 5000 := by
        have h5 := hEl
        rw [← HDE.out, List.length_append, List.length_map] at h5
        omega
      have cO := mkHid (rsOver hT HR.out false hhd.2)
      have HDE2 : Hid ((D.map (·.1) ++ [en]) ++ E2 = Es) := mkHid (by rw [← HDE.out]; simp)
      have He := mkHid he
      have HRh := mkHid hRh
      have H2 := mkHid h2
      have hsg : isSg (hdT R) ⟨#[46]⟩ = false := by
        rcases hRh with e | e
        · subst e; rfl
        · rw [e]; exact sgNe 44 46 (by decide)
      clear HX HDE he hRh h2
      go_wp2_with fail
      refine cO.out.mono ?_
      rintro e w3 ⟨rfl, hb3⟩
      have HO3 := mkHid (Hown.out.below hb3)
      have Hg3 := mkHid (gr_lowB Hgr.out hb3 hwr)
      have HR3 := mkHid (HR.out.below hb3)
      have hs3 := Hg3.out.size
      have cN := mkHid (rsTakeNo hT HR3.out ⟨#[44]⟩ (isWd_sg _ _ hhd.1))
      clear cO hb3 Hown Hgr HR hhd
      go_wp2_with fail
      refine cN.out.mono ?_
      rintro e w4 ⟨rfl, hb4⟩
      have HO4 := mkHid (HO3.out.below hb4)
      have Hg4 := mkHid (gr_lowB Hg3.out hb4 hs3)
      have HR4 := mkHid (HR3.out.below hb4)
      have hs4 := Hg4.out.size
      have cE := mkHid (rsEntry hT K R en He.out HR4.out hsg hc1 m (Hm.out w4 (grown_trans Hg2.out Hg4.out)) hgm)
      clear cN hb4 HO3 Hg3 HR3 hs3
      go_wp2_with fail
      refine cE.out.mono ?_
      rintro e w5 ⟨ev, rfl, hB5, hR5, hg5⟩
      obtain ⟨vo, vc, hv⟩ := hB5.shape
      have HB5 := mkHid (hB5.base hs4)
      have HO5 := mkHid (HO4.out.gr hg5 hg2l)
      have Hg5 := mkHid (grown_trans Hg4.out hg5)
      have hs5 := Hg5.out.size
      obtain ⟨W6, hW6⟩ : ∃ W, W = w5.alloc (.cells #[.bool en.grp, .string en.nm, .string en.n, .string en.l, .string en.d, ev] 37) := ⟨_, rfl⟩
      have hb6 : Below w5.heap.size w5 W6 := by rw [hW6]; exact (Below.refl _ _).alloc (Nat.le_refl _) _
      have hC6 : W6.heap[w5.heap.size]? = some (.cells #[.bool en.grp, .string en.nm, .string en.n, .string en.l, .string en.d, ev] 37 (0, 0)) := by rw [hW6]; exact hp_alloc _ _
      obtain ⟨W7, hW7⟩ : ∃ W, W = W6.alloc (.cells #[.bool en.grp, .string en.nm, .string en.n, .string en.l, .string en.d, ev] 37) := ⟨_, rfl⟩
      have hb7 : Below W6.heap.size W6 W7 := by rw [hW7]; exact (Below.refl _ _).alloc (Nat.le_refl _) _
      have hC7 : W7.heap[w5.heap.size + 1]? = some (.cells #[.bool en.grp, .string en.nm, .string en.n, .string en.l, .string en.d, ev] 37 (0, 0)) := by
        rw [hW7]
        have := hp_alloc W6 (.cells #[.bool en.grp, .string en.nm, .string en.n, .string en.l, .string en.d, ev] 37)
        rwa [hW6, World.size_alloc, ← hW6] at this
      have hb57 := hb6.trans (hb7.mono hb6.size)
      have HO7 := mkHid (HO5.out.below hb57)
      have HB7 := mkHid (HB5.out.below hb57)
      have Hg7 := mkHid (gr_lowB Hg5.out hb57 hs5)
      have HR7 := mkHid (hR5.below hb57)
      have hs7 : w2.heap.size ≤ W7.heap.size := Hg7.out.size
      have HC6 := mkHid hC6
      have HC7 := mkHid hC7
      subst hv
      rw [hW6] at HC6 hW7
      have HW7 := mkHid hW7
      rw [hW7] at HO7 HB7 HC7 hs7
      clear cE hB5 hR5 hg5 HO4 Hg4 HR4 hs4 HB5 HO5 Hg5 hs5 hb6 hC6 hb7 hC7 hb57 hW6 hW7
      go_wp2_with (first | (refine wpL_load_row rfl 37 _ rfl w5.heap.size #[.bool en.grp, .string en.nm, .string en.n, .string en.l, .string en.d, .slice vo en.mem.length vc] 37 (0, 0) _ rfl HC6.out Tryz.underlying37 rfl (by kernel_rfl) ?_) | (at_builtin; refine wp_appEn rfl _ _ rfl w2.heap.size u5 D rfl HO7.out [(en, .slice vo en.mem.length vc)] ⟨w5.heap.size + 1, 0, none⟩ 1 _ rfl rfl (six_cells HC7.out) (fun e he => by rw [List.mem_singleton] at he; subst he; exact HB7.out) (by rw [List.length_singleton]; omega) hs7 ?_; intro v8 w8 hown8 hg8; refine Hid.out ?_))
      refine mkHid ?_
      have hb8 : Below w2.heap.size W7 w8 := by
        rw [HW7.out]
        exact ⟨hg8.os, hg8.tape, hg8.output, hg8.size, fun k hk => hg8.block k (by omega) (fun e => by have := (World.ownsRow.lt HO7.out.row k e.symm).1; omega)⟩
      have HO8 := mkHid hown8
      have Hg8 := mkHid (gr_lowB Hg7.out hb8 (Nat.le_refl _))
      have HR8 := mkHid (HR7.out.lowB hg2l hq2l hb8)
      have hs8 := Hg8.out.size
      have hcs : cntS ((D ++ [(en, Value.slice vo en.mem.length vc)]).map (·.1)) = cntS (D.map (·.1)) + en.cnt := by rw [List.map_append, cntS_app]; rfl
      rw [← hcs] at HR8
      have HDE3 : Hid ((D ++ [(en, Value.slice vo en.mem.length vc)]).map (·.1) ++ E2 = Es) := mkHid (by rw [List.map_append]; exact HDE2.out)
      clear hown8 hg8 hb8 HC6 HC7 HO7 HB7 Hg7 HR7 HW7 hs7 hcs HDE2
      rcases HRh.out with hc | hc
      · subst hc
        have cS := mkHid (rsSign hT HR8.out ⟨#[44]⟩ false rfl)
        clear HRh
        go_wp2_with fail
        refine cS.out.mono ?_
        rintro e w9 ⟨rfl, hb9⟩
        have HO9 := mkHid (HO8.out.below hb9)
        have Hg9 := mkHid (gr_lowB Hg8.out hb9 hs8)
        have HR9 := mkHid (HR8.out.below hb9)
        have hs9 := Hg9.out.size
        have cO2 := mkHid (rsOver hT HR9.out true rfl)
        clear cS hb9 HO8 Hg8 HR8
        go_wp2_with fail
        refine cO2.out.mono ?_
        rintro e wA ⟨rfl, hbA⟩
        have HOA := mkHid (HO9.out.below hbA)
        have HgA := mkHid (gr_lowB Hg9.out hbA hs9)
        have HRA := mkHid (HR9.out.below hbA)
        clear cO2 hbA HO9 Hg9 HR9
        go_wp2
        refine ⟨⟨_, E2, [], HDE3, H2, HOA, HRA, HgA⟩, ?_⟩
        rw [HRA.out.next, Hmeas.out]
        exact He.out.shorter
      · have cS := mkHid (rsSign hT HR8.out ⟨#[44]⟩ true (by rw [hc]; exact sgEq 44))
        clear HRh hc
        go_wp2_with fail
        refine cS.out.mono ?_
        rintro e w9 ⟨rfl, hb9⟩
        have HO9 := mkHid (HO8.out.below hb9)
        have Hg9 := mkHid (gr_lowB Hg8.out hb9 hs8)
        have HR9 := mkHid (HR8.out.below hb9)
        clear cS hb9 HO8 Hg8 HR8
        go_wp2
        refine ⟨⟨_, E2, R, HDE3, H2, HO9, HR9, Hg9⟩, ?_⟩
        rw [HR9.out.next, Hmeas.out]
        exact He.out.shorter
set_option maxRecDepth 20000 in
/-- errors.As where there is no error. -/
theorem asNil (y : Value) (w : World) : Calls Tryz.prog 30 #[.nilIface, y] w fun e w' => e = .returned (.bool false) ∧ w = w' := by
  go_enter Tryz.func30, Tryz.ntmps30
  go_wp2
  go_ret
  exact ⟨rfl, rfl⟩
set_option maxRecDepth 20000 in
set_option maxHeartbeats 8000000 in
theorem implReadList (s : ByteArray) (T : List Tk) (Es : List En) (w : World) (hs : s.size ≤ 4000) (hcl : Clean s) (hTk : Toks s 0 T) (hT : Ts T s) (hne : T ≠ []) (hX : Lsk (Kt T 0) Es) (hcnt : cntS Es ≤ 499) (hEl : Es.length ≤ 5000) (m : Int) (hm : w.cell? ⟨1, 0, none⟩ = some (.int .i64 m)) :
    Calls Tryz.prog 7 #[.string s] w fun e w' => ∃ v D, e = .returned (.agg #[.int .i64 0, .int .i64 0, v]) ∧ D.map (·.1) = Es ∧ Ens w.heap.size v D w' ∧ Below w.heap.size w w' := by
  have hml : 1 < w.heap.size := World.block_lt_of_cell? _ _ hm
  obtain ⟨W, hW⟩ : ∃ W, W = w.alloc (.cells #[.int .i64 0, .int .i64 0, .slice none 0 0] 27) := ⟨_, rfl⟩
  have hbW : Below w.heap.size w W := by rw [hW]; exact (Below.refl _ _).alloc (Nat.le_refl _) _
  have hAW : W.heap[w.heap.size]? = some (.cells #[.int .i64 0, .int .i64 0, .slice none 0 0] 27 (0, 0)) := by rw [hW]; exact hp_alloc _ _
  obtain ⟨W1, hW1⟩ : ∃ W1, W1 = W.alloc (.cells #[.string s, .int .i64 0, .int .i64 0, .slice none 0 0, .int .i64 0, .int .i64 0] 58) := ⟨_, rfl⟩
  have hb1 : Below W.heap.size W W1 := by rw [hW1]; exact (Below.refl _ _).alloc (Nat.le_refl _) _
  have hs0 : W.heap.size = w.heap.size + 1 := by rw [hW]; simp
  have hR1 : W1.heap[W.heap.size]? = some (.cells #[.string s, .int .i64 0, .int .i64 0, .slice none 0 0, .int .i64 0, .int .i64 0] 58) := by rw [hW1]; exact hp_alloc _ _
  have hbw1 := hbW.trans (hb1.mono hbW.size)
  have hA1 := (hb1.block _ (hp_lt hAW)).trans hAW
  have cL := mkHid (implTooLong s W (by omega))
  rw [decide_eq_false (show ¬ (100000 : Int) < (s.size : Int) by omega)] at cL
  have hm1 := (hbw1.cell (p := ⟨1, 0, none⟩) hml).trans hm
  have cR := mkHid (rsRead W.heap.size s T Es W1 hs hcl hTk hT hne hX hcnt hEl hR1 m hm1 (by omega))
  have HW := mkHid hW
  have HW1 := mkHid hW1
  have HA1 := mkHid hA1
  have Hb1 := mkHid hbw1
  have hw1 : W.heap.size < W1.heap.size := hp_lt hR1
  have hwW : w.heap.size < W.heap.size := by omega
  clear hm hX hcnt hne hTk hcl hbW hAW hb1 hs0 hR1 hbw1 hA1 hm1 hW hW1
  go_enter Tryz.func7, Tryz.ntmps7
  go_wp2_with fail
  rw [← HW.out]
  refine cL.out.mono ?_
  rintro e w1 ⟨rfl, hw⟩
  subst hw
  clear cL
  go_wp2_with fail
  rw [← HW1.out]
  refine cR.out.mono ?_
  rintro e w2 ⟨v, D, rfl, hD, hE2, hg2⟩
  have hneW : some w.heap.size ≠ some W.heap.size := fun e => by have := Option.some.inj e; omega
  have hA2 : w2.heap[w.heap.size]? = some (.cells #[.int .i64 0, .int .i64 0, .slice none 0 0] 27 (0, 0)) := (hg2.block _ (hp_lt HA1.out) hneW).trans HA1.out
  have hb2 : Below w.heap.size w w2 := ⟨hg2.os.trans Hb1.out.os, hg2.tape.trans Hb1.out.tape, hg2.output.trans Hb1.out.output, Nat.le_trans Hb1.out.size hg2.size, fun k hk => (hg2.block k (by omega) (fun e => by have := Option.some.inj e; omega)).trans (Hb1.out.block k hk)⟩
  obtain ⟨vo, vc, hv⟩ := hE2.shape
  obtain ⟨W3, hW3⟩ : ∃ W, W = w2.alloc (.cells #[.int .i64 0, .int .i64 0] 64) := ⟨_, rfl⟩
  have hb3 : Below w2.heap.size w2 W3 := by rw [hW3]; exact (Below.refl _ _).alloc (Nat.le_refl _) _
  have hE3 := hE2.below hb3
  have hA3 := (hb3.block _ (hp_lt hA2)).trans hA2
  have Hb3 := mkHid (hb2.trans (hb3.mono hb2.size))
  have HE3 := mkHid hE3
  have HA3 := mkHid hA3
  have HD := mkHid hD
  have HW3 := mkHid hW3
  have cA := mkHid (fun y => asNil y W3)
  have hw13 : W1.heap.size ≤ W3.heap.size := Nat.le_trans hg2.size hb3.size
  subst hv
  clear cR hE2 hg2 hA2 hb2 hb3 hE3 hA3 hW3 hD HA1 Hb1
  go_wp2_with fail
  rw [← HW3.out]
  refine (cA.out _).mono ?_
  rintro e w4 ⟨rfl, hw4⟩
  subst hw4
  clear cA
  have HE5 : Hid (Ens w.heap.size (.slice vo D.length vc) D (W3.setRow w.heap.size #[.int .i64 0, .int .i64 0, .slice vo D.length vc])) := mkHid (by
    have hk : ∀ j, W1.heap.size ≤ j → (W3.setRow w.heap.size #[.int .i64 0, .int .i64 0, .slice vo D.length vc]).heap[j]? = W3.heap[j]? := fun j hj => setRow_other W3 w.heap.size j _ (by omega)
    refine Ens.baseE (B := W1.heap.size) ⟨row_stay HE3.out.row (fun j hj => hk j (World.ownsRow.lt HE3.out.row j hj).1), fun e he => row_stay (HE3.out.own e he) (fun j hj => hk j (World.ownsRow.lt (HE3.out.own e he) j hj).1)⟩ (by omega))
  go_wp2_with (refine wpL_store_row rfl 27 _ _ rfl w.heap.size #[.int .i64 0, .int .i64 0, .slice vo D.length vc] rfl rfl 27 _ HA3.out (by kernel_rfl) rfl (by simp [Value.oneCell']) ?_)
  refine bodyPost_ret (v := .agg #[.int .i64 0, .int .i64 0, .slice vo D.length vc]) (results_cell_row Tryz.results7 _ _ w.heap.size 27 _ (0, 0) _ rfl (setRow_heap _ _ _ _ _ _ HA3.out) Tryz.underlying27 rfl (by kernel_rfl)) rfl ?_
  exact ⟨_, D, rfl, HD.out, HE5.out, Hb3.out.grown (grown_setRow _ _ _) Hb3.out.size (fun j hj => by cases hj; exact Nat.le_refl _)⟩
end Go.Proofs.YtadoifnfgoonaaaGreatDoor
