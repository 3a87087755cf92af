
/- The program's hosts of a table: impl.hostsIn. -/

/- The tests for a blank. -/

/- Lists of fields in memory: read, made anew, held against one another. -/

/- The last field of a name, the program's side. -/

/- The last one that is meant of those not taken yet: marks against a list that is cut. Laws of no program. -/

/- Blanks taken off both ends, the specification's side. -/

/- Runs of blanks as one space, the specification's side. -/

/- The kinds: none of a line end's bytes; a blank. -/

/- The walks of the two Unfold. -/

/- Plain mathematics of WriteHead; a slice of bytes beside a variable. -/

/- The tests for a field's name and value. -/

/- The walks of the two WriteHead. -/
import Derived.Test.YtdjghniinnfncaaGreatDoorHoSorted
import Derived.Test.YtdjghniinnfncaaGreatDoorExSpec1
import Derived.Test.YtdjghniinnfncaaGreatDoorAnyVals
import Derived.Laws.MakeOwn
import Derived.Laws.OwnMore
import Derived.Deep.QuietTactic
import Derived.BigQuiet
import Derived.Deep.RegionWith
import Derived.Test.YtdjghniinnfncaaGreatDoorKyDom
import Derived.Lib.QuietBelow
import Derived.Test.YtdjghniinnfncaaGreatDoorBytes
namespace Go.Proofs.YtdjghniinnfncaaGreatDoor
open Go.RowKit Go.Lib Go.Maps Go.Shelf Go.Sort
/-- A row that is a domain's. -/
def Ho.isOf (d : ByteArray) (m : GMx) : Bool := (⟨(lower m.domain.data.toList).toArray⟩ : ByteArray).toList == d.toList
def Ho.step (p : GMx → Bool) (o : List ByteArray) (m : GMx) : List ByteArray := if p m then Ho.put o m.host else o
def Ho.acc (p : GMx → Bool) (l : List GMx) : List ByteArray := l.foldl (Ho.step p) []
set_option maxRecDepth 20000 in
theorem Ho.acc_once (p : GMx → Bool) (l : List GMx) : Ho.acc p l = Ho.once (l.filter p) := by
  unfold Ho.acc Ho.once
  rw [List.foldl_filter]
  rfl
set_option maxRecDepth 20000 in
theorem Ho.acc_take (p : GMx → Bool) (l : List GMx) (k : Nat) (h : k < l.length) : Ho.acc p (l.take (k + 1)) = Ho.step p (Ho.acc p (l.take k)) l[k] := by
  unfold Ho.acc
  rw [← List.take_append_getElem h, List.foldl_append]
  rfl
set_option maxRecDepth 20000 in
theorem Ho.step_len (p : GMx → Bool) (o : List ByteArray) (m : GMx) : (Ho.step p o m).length ≤ o.length + 1 := by
  unfold Ho.step Ho.put
  split
  · split <;> simp
  · omega
set_option maxRecDepth 20000 in
theorem Ho.acc_len (p : GMx → Bool) (l : List GMx) (k : Nat) (h : k ≤ l.length) : (Ho.acc p (l.take k)).length ≤ k := by
  induction k with
  | zero => simp [Ho.acc]
  | succ k ih =>
    rw [Ho.acc_take p l k (by omega)]
    have := ih (by omega)
    have := Ho.step_len p (Ho.acc p (l.take k)) l[k]
    omega
/-- What stands while the rows are gone through. -/
structure HsT (B G : Nat) (w : World) (o : Option Addr) (D : List GMx) (L : List ByteArray) (v : Value) (W : World) : Prop where
  own : OwnX G v L W
  set : SetT W B L.length L
  rows : GMxsL (B + 1) G W o D
  bel : Below B w W
  size : G ≤ W.heap.size
set_option maxRecDepth 20000 in
theorem HsT.below {B G : Nat} {w : World} {o : Option Addr} {D : List GMx} {L : List ByteArray} {v : Value} {W W' : World} (h : HsT B G w o D L v W) (hb : Below W.heap.size W W') (hB : B < G) : HsT B G w o D L v W' :=
  ⟨OwnX.below h.own hb, h.set.below hb, h.rows.same (Same.of_below hb h.size), h.bel.trans (hb.mono (by have := h.size; omega)), Nat.le_trans h.size hb.size⟩
set_option maxRecDepth 20000 in
theorem HsT.done {B G : Nat} {w : World} {o : Option Addr} {D : List GMx} {L : List ByteArray} {v v' : Value} {W W2 W3 W6 : World} {k : ByteArray} (h : HsT B G w o D L v W) (hB : B < G) (hS : SetT W2 B (L.length + 1) (L ++ [k])) (hg : W.grownBy W2 (some B)) (hb : Below W2.heap.size W2 W3) (hg6 : W3.grownBy W6 v.ownBlock) (ho : OwnX G v' (L ++ [k]) W6) : HsT B G w o D (L ++ [k]) v' W6 := by
  have hs := h.size
  have hs1 := hg.size
  have hs2 := hb.size
  have hs3 := hg6.size
  have hnb : ∀ j, v.ownBlock = some j → G ≤ j := fun j hj => (World.ownsRow.lt h.own j hj).1
  have hne : ∀ b, b < G → some b ≠ v.ownBlock := fun b hb e => by have := hnb b e.symm; omega
  refine ⟨ho, ?_, ?_, ?_, by omega⟩
  · rw [List.length_append]
    exact (hS.below hb).kept hg6 (hne B hB)
  · have r1 := h.rows.same (Same.gr hg (Nat.lt_succ_self B) hs)
    have r2 := r1.same (Same.of_below hb (by omega))
    exact r2.same (fun b _ h2 => hg6.block b (by omega) (hne b h2))
  · have b1 : Below B w W2 := h.bel.grown hg (by omega) (fun j hj => by injection hj with hj; omega)
    have b2 : Below B w W3 := b1.trans (hb.mono (by omega))
    exact b2.grown hg6 (by omega) (fun j hj => by have := hnb j hj; omega)
set_option maxRecDepth 20000 in
theorem HsT.own2 {B G : Nat} {w : World} {o : Option Addr} {D : List GMx} {L : List ByteArray} {v : Value} {W W2 W3 : World} (h : HsT B G w o D L v W) (hB : B < G) (hg : W.grownBy W2 (some B)) (hb : Below W2.heap.size W2 W3) : OwnX G v L W3 :=
  OwnX.below (h.own.keep hg (own_ne h.own hB)) hb
set_option maxHeartbeats 4000000 in
set_option maxRecDepth 20000 in
theorem implHostsIn (o : Option Addr) (T : List GMx) (cap lo hi : Nat) (d : ByteArray) (w : World) (hT : T.length ≤ 1000) (hc : GMxsL lo hi w o T) (hhi : hi ≤ w.heap.size) (hz : ∀ t ∈ T, t.fits 100000) :
    Calls Tryz.prog 28 #[.slice o T.length cap, .string d] w fun e w' => ∃ o' c', e = .returned (.slice o' (Ho.once (Ho.sorted (Ho.isOf d) T)).length c') ∧ OwnX w.heap.size (.slice o' (Ho.once (Ho.sorted (Ho.isOf d) T)).length c') (Ho.once (Ho.sorted (Ho.isOf d) T)) w' ∧ Below w.heap.size w w' := by
  obtain ⟨W0, hW0⟩ : ∃ W, w.alloc (.map #[] 0) = W := ⟨_, rfl⟩
  have s0 : W0.heap.size = w.heap.size + 1 := by rw [← hW0]; simp
  have b0 : Below w.heap.size w W0 := by rw [← hW0]; exact (Below.refl _ _).alloc (Nat.le_refl _) _
  have t0 : SetT W0 w.heap.size 0 [] := by rw [← hW0]; exact SetT.made w
  obtain ⟨W1, hW1⟩ : ∃ W, W0.alloc (.cells #[.slice o T.length cap] 33) = W := ⟨_, rfl⟩
  have b1 : Below W0.heap.size W0 W1 := by rw [← hW1]; exact (Below.refl _ _).alloc (Nat.le_refl _) _
  have s1 : W1.heap.size = w.heap.size + 2 := by rw [← hW1]; simp [s0]
  have hBt : W1.cell? ⟨W0.heap.size, 0, none⟩ = some (.slice o T.length cap) := by rw [← hW1]; simp
  have hV := mxValues (.slice o T.length cap) W0 rfl
  rw [hW1] at hV
  have hc1 : GMxsL lo hi W1 o T := (hc.same (Same.of_below b0 hhi)).same (Same.of_below b1 (by omega))
  have hSf := mxSorted W0.heap.size lo hi o cap T hT W1 hBt hc1 (by omega)
  have hmk := make_set w
  rw [hW0] at hmk
  have HW0 := mkHid hW0
  have HV := mkHid hV
  have HSf := mkHid hSf
  have Hb := mkHid (b0.trans (b1.mono (by omega : w.heap.size ≤ W0.heap.size)))
  have Ht := mkHid (t0.below b1)
  replace s0 := mkHid s0
  replace s1 := mkHid s1
  obtain ⟨q, hq⟩ : ∃ q, W0.heap.size = q := ⟨_, rfl⟩
  rw [hq] at HV HSf
  replace hq := mkHid hq
  clear hc hc1 hBt hW1 hV hSf b0 b1 t0 hW0
  go_enter Tryz.func28, Tryz.ntmps28
  go_wp2_with fail
  refine HV.out.mono ?_
  rintro e w1 ⟨rfl, rfl⟩
  go_wp2_with fail
  refine HSf.out.mono ?_
  rintro e W2 ⟨o', cap', D, rfl, hp, hu, hl, hb2⟩
  clear HV HSf
  have hlen : T.length = D.length := hp.length_eq.symm
  obtain ⟨B, hB⟩ : ∃ B, w.heap.size = B := ⟨_, rfl⟩
  have hDz : Hid (∀ t ∈ D, t.fits 100000) := fun t ht => hz t (hp.mem_iff.1 ht)
  have hstart : HsT B W2.heap.size w o' D [] (.slice none 0 0) W2 := by
    rw [← hB]
    have z := hb2.size
    have z1 := s1.out
    exact ⟨OwnX.nil _ _, Ht.out.below hb2, hl.mono (by omega) (Nat.le_refl _), Hb.out.trans (hb2.mono (by omega)), Nat.le_refl _⟩
  have hG : B < W2.heap.size := by have := hb2.size; have := s1.out; omega
  obtain ⟨G, hGG⟩ : ∃ G, W2.heap.size = G := ⟨_, rfl⟩
  rw [hGG] at hstart hG
  have Hst := mkHid hstart
  have Hpu := mkHid (And.intro hp hu)
  clear hstart hp hu hl hb2 Ht Hb hGG hz
  rw [hlen, hB]
  rw [hlen] at hT
  replace hlen := mkHid hlen
  replace hB := mkHid hB
  clear HW0 hmk s0 s1 hq
  go_wp2
  go_loopw [6, 14] (fun hv iv wr => ∃ (k : Nat) (o1 : Option Addr) (c1 : Nat), k ≤ D.length ∧ iv = .int .i64 k ∧ hv = .slice o1 (Ho.acc (Ho.isOf d) (D.take k)).length c1 ∧ Hid (HsT B G w o' D (Ho.acc (Ho.isOf d) (D.take k)) (.slice o1 (Ho.acc (Ho.isOf d) (D.take k)).length c1) wr)) (fun _ iv _ => D.length - (Lib.intOf iv).toNat)
  case atStart => exact ⟨0, none, 0, Nat.zero_le _, rfl, rfl, Hst⟩
  case round =>
    clear Hst
    obtain ⟨k, o1, c1, hk, rfl, rfl, hH⟩ := hrel
    by_cases hlt : k < D.length
    · have hacc := mkHid (Ho.acc_take (Ho.isOf d) D k hlt)
      have hln := Ho.acc_len (Ho.isOf d) D k hk
      obtain ⟨L, hL⟩ : ∃ L, Ho.acc (Ho.isOf d) (D.take k) = L := ⟨_, rfl⟩
      rw [hL] at hH hacc hln
      rw [hL]
      clear hL
      obtain ⟨a, ha, h1, h2, hA⟩ := hH.out.rows k hlt
      have hfit := mkHid (hDz.out D[k] (List.getElem_mem hlt))
      generalize hm : D[k] = m at hA hacc hfit
      have c0 := hA.c0
      have c1' := hA.c1
      have c2 := hA.c2
      subst ha
      clear hA hm h1 h2
      obtain ⟨V, hV⟩ : ∃ V, wr.alloc (.cells #[.string m.domain, .int .i64 m.prefer, .string m.host] 58) = V := ⟨_, rfl⟩
      have bV : Below wr.heap.size wr V := by rw [← hV]; exact (Below.refl _ _).alloc (Nat.le_refl _) _
      have hn : V.heap[wr.heap.size]? = some (.cells #[.string m.domain, .int .i64 m.prefer, .string m.host] 58 (0, 0)) := by rw [← hV]; exact World.alloc_heap_new wr _
      obtain ⟨Bm, hBm⟩ : ∃ b, wr.heap.size = b := ⟨_, rfl⟩
      have hBG : G ≤ Bm := by rw [← hBm]; exact hH.out.size
      rw [hBm] at hn
      have hbl : Bm < V.heap.size := (Array.getElem?_eq_some_iff.1 hn).1
      have HV1 := mkHid (hH.out.below bV hG)
      have cL := mkHid (implLowered m.domain V hfit.out.1)
      have HV := mkHid hV
      have HBm := mkHid hBm
      have hcm : V.cell? ⟨Bm, 2, none⟩ = some (.string m.host) := by simp [World.cell?, hn]
      have Hn := mkHid hn
      clear hV bV hBm hn hH
      go_wp2_with fail
      rw [HV.out, HBm.out]
      refine cL.out.mono ?_
      rintro e V2 ⟨rfl, hb2⟩
      have HV2 := mkHid (HV1.out.below hb2 hG)
      have hcm2 : V2.cell? ⟨Bm, 2, none⟩ = some (.string m.host) := (hb2.cell (p := ⟨Bm, 2, none⟩) hbl).trans hcm
      have hbl2 : Bm < V2.heap.size := Nat.lt_of_lt_of_le hbl hb2.size
      clear cL HV HBm HV1 Hn hb2 hcm hbl c0 c1' c2
      obtain ⟨lw, hlw⟩ : ∃ x : ByteArray, (⟨(lower m.domain.data.toList).toArray⟩ : ByteArray) = x := ⟨_, rfl⟩
      rw [hlw]
      have hp' : Ho.isOf d m = (lw.toList == d.toList) := by unfold Ho.isOf; rw [hlw]
      clear hlw
      have hz1 : m.host.size ≤ 100000 := hfit.out.2
      clear hfit
      have hmeas : Hid (D.length - (k + 1) < D.length - k) := by show _ < _; omega
      have hk1 : Hid (k + 1 ≤ D.length) := by show _ ≤ _; omega
      cases he : (lw.toList == d.toList) with
      | false =>
        have hst : Ho.acc (Ho.isOf d) (D.take (k + 1)) = L := by rw [hacc.out]; unfold Ho.step; rw [hp', he]; rfl
        replace hst := mkHid hst
        clear hacc hp'
        go_wp2
        go_roundw
        case rel => exact ⟨k + 1, o1, c1, hk1.out, by go_num, by rw [hst.out], by rw [hst.out]; exact HV2⟩
        case measure => first | exact hmeas.out | (simp [Lib.intOf]; omega)
      | true =>
        have cH := mkHid (implHasT B _ L m.host V2 HV2.out.set (by omega))
        go_wp2_with fail
        refine cH.out.mono ?_
        rintro e V3 ⟨rfl, hb3⟩
        have HV3 := mkHid (HV2.out.below hb3 hG)
        have hcm3 : V3.cell? ⟨Bm, 2, none⟩ = some (.string m.host) := (hb3.cell (p := ⟨Bm, 2, none⟩) hbl2).trans hcm2
        have hbl3 : Bm < V3.heap.size := Nat.lt_of_lt_of_le hbl2 hb3.size
        clear cH HV2 hb3 hcm2 hbl2
        cases hi : Ex.isIn L m.host with
        | true =>
          have hst : Ho.acc (Ho.isOf d) (D.take (k + 1)) = L := by rw [hacc.out]; unfold Ho.step Ho.put; rw [hp', he, hi]; rfl
          replace hst := mkHid hst
          clear hacc hp'
          go_wp2
          go_roundw
          case rel => exact ⟨k + 1, o1, c1, hk1.out, by go_num, by rw [hst.out], by rw [hst.out]; exact HV3⟩
          case measure => first | exact hmeas.out | (simp [Lib.intOf]; omega)
        | false =>
          have hst : Ho.acc (Ho.isOf d) (D.take (k + 1)) = L ++ [m.host] := by rw [hacc.out]; unfold Ho.step Ho.put; rw [hp', he, hi]; rfl
          replace hst := mkHid hst
          obtain ⟨X, hX⟩ : ∃ X, V3.alloc (.cells #[.string m.host] 9) = X := ⟨_, rfl⟩
          have bX : Below V3.heap.size V3 X := by rw [← hX]; exact (Below.refl _ _).alloc (Nat.le_refl _) _
          have hcX : X.cell? ⟨V3.heap.size, 0, none⟩ = some (.string m.host) := by rw [← hX]; simp
          have HX1 := mkHid (HV3.out.below bX hG)
          have hcm4 : X.cell? ⟨Bm, 2, none⟩ = some (.string m.host) := (bX.cell (p := ⟨Bm, 2, none⟩) hbl3).trans hcm3
          have hbl4 : Bm < X.heap.size := Nat.lt_of_lt_of_le hbl3 bX.size
          have cA := mkHid (implAddT B _ V3.heap.size 1 L m.host X HX1.out.set hcX (by omega) hi (by omega))
          have HX := mkHid hX
          clear hacc hp' hX bX hcX HV3
          go_wp2_with fail
          rw [HX.out]
          refine cA.out.mono ?_
          rintro e V4 ⟨rfl, hS4, hg4⟩
          have hcm5 : V4.cell? ⟨Bm, 2, none⟩ = some (.string m.host) := (World.cell?_of_block (hg4.out.block Bm hbl4 (by intro e; injection e with e; omega))).trans hcm4
          clear cA HX hcm3 hcm4 hbl3 hbl4
          have cC := mkHid (fun w => libClone m.host w (by omega))
          go_wp2_with fail
          refine (cC.out _).mono ?_
          rintro e W5 ⟨rfl, hb5⟩
          have q5 := mkHid (HX1.out.own2 hG hg4.out hb5)
          have hGs : G ≤ W5.heap.size := by have := HX1.out.size; have := hg4.out.size; have := hb5.size; omega
          have hbA : Below V4.heap.size V4 (W5.alloc (.cells #[.string m.host] 9)) := hb5.alloc hb5.size _
          have hfin := mkHid (fun (v' : Value) (W6 : World) (hg6 : (W5.alloc (.cells #[.string m.host] 9)).grownBy W6 (Value.slice o1 L.length c1).ownBlock) (ho : OwnX G v' (L ++ [m.host]) W6) => HX1.out.done hG hS4.out hg4.out hbA hg6 ho)
          clear cC hb5 hbA HX1 hS4 hg4 hcm5
          go_wp2_with (at_builtin; go_must (refine wp_appXat (w := W5) rfl _ _ rfl G (.slice o1 L.length c1) L rfl q5.out m.host 1 rfl (by omega) hGs ?_; intro v' w6 hown6 hg6 _; obtain ⟨o6, c6, rfl⟩ := hown6.shape; have F6 := mkHid (hfin.out _ _ hg6 hown6); clear hown6 hg6 hfin q5; generalize hl6 : (L ++ [m.host]).length = ln at F6 ⊢; replace hl6 := mkHid hl6; refine Hid.out ?_))
          refine mkHid ?_
          go_wp2
          go_roundw
          case rel => exact ⟨k + 1, o6, c6, hk1.out, by go_num, by rw [hst.out, hl6.out], by rw [hst.out, hl6.out]; exact F6⟩
          case measure => first | exact hmeas.out | (simp [Lib.intOf]; omega)
    · have hkk : k = D.length := by omega
      have hfin : Ho.acc (Ho.isOf d) (D.take k) = Ho.once (Ho.sorted (Ho.isOf d) T) := by
        rw [hkk, List.take_length, Ho.acc_once]
        exact Ho.once_sorted (Ho.isOf d) T D Hpu.out.1 Hpu.out.2
      obtain ⟨R, hR⟩ : ∃ R, Ho.once (Ho.sorted (Ho.isOf d) T) = R := ⟨_, rfl⟩
      rw [hR] at hfin
      rw [hfin] at hH
      rw [hfin]
      replace hR := mkHid hR
      replace hkk := mkHid hkk
      clear hfin
      go_wp2
      go_ret
      rw [hB.out, hR.out]
      exact ⟨o1, c1, rfl, hH.out.own.base (Nat.le_of_lt hG), hH.out.bel⟩
end Go.Proofs.YtdjghniinnfncaaGreatDoor
namespace Go.Proofs.YtdjghniinnfncaaGreatDoor
open Go.RowKit Go.Lib
set_option maxRecDepth 20000 in
/-- The two tests for a blank. -/
theorem blank_cases (c : UInt8) : ((c.toNat : Int) == 32) = true ∧ Pl.blank c = true ∨ ((c.toNat : Int) == 32) = false ∧ ((c.toNat : Int) == 9) = true ∧ Pl.blank c = true ∨ ((c.toNat : Int) == 32) = false ∧ ((c.toNat : Int) == 9) = false ∧ Pl.blank c = false := by
  cases h : ((c.toNat : Int) == 32)
  · cases h9 : ((c.toNat : Int) == 9)
    · exact .inr (.inr ⟨rfl, rfl, by simp [Pl.blank, Pl.byte_ne c 32 _ rfl h, Pl.byte_ne c 9 _ rfl h9]⟩)
    · exact .inr (.inl ⟨rfl, rfl, by rw [Pl.byte_eq c 9 _ rfl h9]; rfl⟩)
  · exact .inl ⟨rfl, by rw [Pl.byte_eq c 32 _ rfl h]; rfl⟩
end Go.Proofs.YtdjghniinnfncaaGreatDoor
namespace Go.Proofs.YtdjghniinnfncaaGreatDoor
open Go.RowKit Go.Lib
abbrev Fd := ByteArray × ByteArray
/-- The slice's elements, below a block, are these fields. -/
def Fld (B : Nat) (w : World) (o : Option Addr) (F : List Fd) : Prop :=
  ∀ i (h : i < F.length), ∃ a, o = some a ∧ a.block < B ∧ w.cell? (a.add (i * 2)) = some (.string F[i].1) ∧ w.cell? ⟨(a.add (i * 2)).block, (a.add (i * 2)).off + 1, none⟩ = some (.string F[i].2)
set_option maxRecDepth 20000 in
theorem add_block (a : Addr) (n : Nat) : (a.add n).block = a.block := by unfold Addr.add; split <;> rfl
set_option maxRecDepth 20000 in
theorem Fld.below {B : Nat} {w w' : World} {o : Option Addr} {F : List Fd} (h : Fld B w o F) (hb : Below B w w') : Fld B w' o F := by
  intro i hi
  obtain ⟨a, ho, ha, h0, h1⟩ := h i hi
  exact ⟨a, ho, ha, (hb.cell (by rw [add_block]; exact ha)).trans h0, (hb.cell (p := ⟨(a.add (i * 2)).block, (a.add (i * 2)).off + 1, none⟩) (show (a.add (i * 2)).block < B from by rw [add_block]; exact ha)).trans h1⟩
set_option maxRecDepth 20000 in
theorem Fld.mono {B B' : Nat} {w : World} {o : Option Addr} {F : List Fd} (h : Fld B w o F) (hB : B ≤ B') : Fld B' w o F := by
  intro i hi
  obtain ⟨a, ho, ha, h0, h1⟩ := h i hi
  exact ⟨a, ho, by omega, h0, h1⟩
end Go.Proofs.YtdjghniinnfncaaGreatDoor
namespace Go.Proofs.YtdjghniinnfncaaGreatDoor
open Go.RowKit Go.Lib
def namedB (n m : ByteArray) : Bool := lower n.data.toList == lower m.data.toList
/-- The last place below k that is meant. -/
def lastTo (p : Nat → Bool) : Nat → Option Nat
  | 0 => none
  | k + 1 => if p k then some k else lastTo p k
def atV : Option Nat → Int
  | none => -1
  | some k => k
def nmAt (F : List Fd) (m : ByteArray) (i : Nat) : Bool := if h : i < F.length then namedB F[i].1 m else false
end Go.Proofs.YtdjghniinnfncaaGreatDoor
namespace Go.Proofs.YtdjghniinnfncaaGreatDoor
set_option maxRecDepth 20000 in
theorem lastTo_congr {p q : Nat → Bool} : ∀ n, (∀ i, i < n → p i = q i) → lastTo p n = lastTo q n
  | 0, _ => rfl
  | n + 1, h => by
    rw [lastTo, lastTo, h n (Nat.lt_succ_self n), lastTo_congr n fun i hi => h i (Nat.lt_succ_of_lt hi)]
set_option maxRecDepth 20000 in
theorem lastTo_lt {p : Nat → Bool} : ∀ n k, lastTo p n = some k → k < n
  | 0, k, h => by cases h
  | n + 1, k, h => by
    rw [lastTo] at h
    split at h
    · cases h; exact Nat.lt_succ_self _
    · exact Nat.lt_succ_of_lt (lastTo_lt n k h)
set_option maxRecDepth 20000 in
theorem snoc_ind {α : Type} {motive : List α → Prop} (h0 : motive []) (h1 : ∀ l a, motive l → motive (l ++ [a])) (l : List α) : motive l := by
  have : ∀ r : List α, motive r.reverse := by
    intro r
    induction r with
    | nil => exact h0
    | cons a r ih => rw [List.reverse_cons]; exact h1 _ _ ih
  have := this l.reverse
  rwa [List.reverse_reverse] at this
def keep {α : Type} (Z : List (α × Bool)) : List α := (Z.filter fun q => !q.2).map (·.1)
def mtAt {α : Type} (p : α → Bool) (L : List α) (i : Nat) : Bool := (L[i]?.map p).getD false
def unAt {α : Type} (p : α → Bool) (Z : List (α × Bool)) (i : Nat) : Bool := (Z[i]?.map fun q => !q.2 && p q.1).getD false
set_option maxRecDepth 20000 in
theorem keep_snoc {α : Type} (Z : List (α × Bool)) (f : α) (t : Bool) : keep (Z ++ [(f, t)]) = if t then keep Z else keep Z ++ [f] := by
  unfold keep
  cases t <;> simp
set_option maxRecDepth 20000 in
theorem mt_snoc {α : Type} (p : α → Bool) (L : List α) (f : α) : lastTo (mtAt p (L ++ [f])) (L ++ [f]).length = if p f then some L.length else lastTo (mtAt p L) L.length := by
  rw [List.length_append, List.length_singleton, lastTo]
  have e : mtAt p (L ++ [f]) L.length = p f := by simp [mtAt]
  rw [e]
  congr 1
  exact lastTo_congr _ fun i hi => by simp [mtAt, List.getElem?_append_left hi]
set_option maxRecDepth 20000 in
theorem un_snoc {α : Type} (p : α → Bool) (Z : List (α × Bool)) (f : α) (t : Bool) : lastTo (unAt p (Z ++ [(f, t)])) (Z ++ [(f, t)]).length = if !t && p f then some Z.length else lastTo (unAt p Z) Z.length := by
  rw [List.length_append, List.length_singleton, lastTo]
  have e : unAt p (Z ++ [(f, t)]) Z.length = (!t && p f) := by simp [unAt]
  rw [e]
  congr 1
  exact lastTo_congr _ fun i hi => by simp [unAt, List.getElem?_append_left hi]
set_option maxRecDepth 20000 in
theorem pick {α : Type} (p : α → Bool) (Z : List (α × Bool)) :
    (lastTo (unAt p Z) Z.length = none ∧ lastTo (mtAt p (keep Z)) (keep Z).length = none) ∨
    ∃ k f k', lastTo (unAt p Z) Z.length = some k ∧ Z[k]? = some (f, false) ∧ lastTo (mtAt p (keep Z)) (keep Z).length = some k' ∧ (keep Z)[k']? = some f ∧ (keep Z).eraseIdx k' = keep (Z.set k (f, true)) := by
  induction Z using snoc_ind with
  | h0 => exact .inl ⟨rfl, rfl⟩
  | h1 Z a ih =>
    obtain ⟨f, t⟩ := a
    rw [un_snoc, keep_snoc]
    cases t with
    | true =>
      rw [if_pos rfl]
      simp only [Bool.not_true, Bool.false_and, Bool.false_eq_true, if_false]
      rcases ih with ih | ⟨k, g, k', h1, h2, h3, h4, h5⟩
      · exact .inl ih
      · have hk := lastTo_lt _ _ h1
        refine .inr ⟨k, g, k', h1, by rw [List.getElem?_append_left hk]; exact h2, h3, h4, ?_⟩
        rw [h5, List.set_append_left _ _ hk, keep_snoc, if_pos rfl]
    | false =>
      simp only [Bool.false_eq_true, if_false]
      rw [mt_snoc]
      cases hp : p f with
      | true =>
        refine .inr ⟨Z.length, f, (keep Z).length, by simp, by simp, by simp, by simp, ?_⟩
        rw [List.set_append_right _ _ (Nat.le_refl _)]
        rw [List.eraseIdx_append_of_length_le (Nat.le_refl _)]
        simp [keep_snoc]
      | false =>
        simp only [Bool.not_false, Bool.true_and, Bool.false_eq_true, if_false]
        rcases ih with ih | ⟨k, g, k', h1, h2, h3, h4, h5⟩
        · exact .inl ih
        · have hk := lastTo_lt _ _ h1
          have hk' := lastTo_lt _ _ h3
          refine .inr ⟨k, g, k', h1, by rw [List.getElem?_append_left hk]; exact h2, h3, by rw [List.getElem?_append_left hk']; exact h4, ?_⟩
          rw [List.eraseIdx_append_of_lt_length hk', h5, List.set_append_left _ _ hk, keep_snoc, if_neg (by simp)]
end Go.Proofs.YtdjghniinnfncaaGreatDoor
namespace Go.Proofs.YtdjghniinnfncaaGreatDoor
open Go.RowKit Go.Lib
namespace Pl
def endB (l : List UInt8) : List UInt8 := (l.reverse.dropWhile blank).reverse
def trimB (l : List UInt8) : List UInt8 := endB (l.dropWhile blank)
set_option maxRecDepth 20000 in
theorem tail_list (t : ByteArray) : (t.extract 1 t.size).data.toList = t.data.toList.drop 1 := by
  rw [ext_data, List.take_of_length_le (by simp)]
set_option maxRecDepth 20000 in
theorem drop_head (t : ByteArray) (h : 0 < t.size) (hb : blank t[0] = true) : (t.data.toList.drop 1).dropWhile blank = t.data.toList.dropWhile blank := by
  obtain ⟨⟨l⟩⟩ := t
  match l, h, hb with
  | c :: r, _, hb =>
    show r.dropWhile blank = (c :: r).dropWhile blank
    rw [List.dropWhile_cons, if_pos (show blank c = true from hb)]
set_option maxRecDepth 20000 in
theorem keep_head (t : ByteArray) (h : 0 < t.size) (hb : blank t[0] = false) : t.data.toList.dropWhile blank = t.data.toList := by
  obtain ⟨⟨l⟩⟩ := t
  match l, h, hb with
  | c :: r, _, hb =>
    show (c :: r).dropWhile blank = c :: r
    rw [List.dropWhile_cons, if_neg (by rw [show blank c = false from hb]; simp)]
set_option maxRecDepth 20000 in
theorem snoc_list (t : ByteArray) (h : 0 < t.size) : t.data.toList = (t.extract 0 (t.size - 1)).data.toList ++ [t[t.size - 1]] := by
  rw [ext_data, List.drop_zero, Nat.sub_zero]
  have hl : t.data.toList.length = t.size := len_list t
  have e : t.data.toList = t.data.toList.take (t.size - 1) ++ t.data.toList.drop (t.size - 1) := (List.take_append_drop _ _).symm
  have d : t.data.toList.drop (t.size - 1) = [t[t.size - 1]] := by
    rw [List.drop_eq_getElem_cons (by omega), List.drop_eq_nil_of_le (by omega)]
    rfl
  rw [d] at e
  exact e
set_option maxRecDepth 20000 in
theorem drop_last (t : ByteArray) (h : 0 < t.size) (hb : blank (t[t.size - 1]) = true) : endB (t.extract 0 (t.size - 1)).data.toList = endB t.data.toList := by
  conv => rhs; rw [snoc_list t h]
  unfold endB
  rw [List.reverse_append, List.reverse_singleton, List.singleton_append, List.dropWhile_cons, if_pos hb]
set_option maxRecDepth 20000 in
theorem keep_last (t : ByteArray) (h : 0 < t.size) (hb : blank (t[t.size - 1]) = false) : endB t.data.toList = t.data.toList := by
  have e := snoc_list t h
  unfold endB
  rw [e, List.reverse_append, List.reverse_singleton, List.singleton_append, List.dropWhile_cons, if_neg (by rw [hb]; simp), List.reverse_cons, List.reverse_reverse]
set_option maxRecDepth 20000 in
theorem endB_nil (t : ByteArray) (h : ¬ 0 < t.size) : endB t.data.toList = t.data.toList := by
  have : t.data.toList = [] := List.length_eq_zero_iff.1 (by rw [len_list]; omega)
  rw [this]; rfl
set_option maxRecDepth 20000 in
theorem dropW_nil (t : ByteArray) (h : ¬ 0 < t.size) : t.data.toList.dropWhile blank = t.data.toList := by
  have : t.data.toList = [] := List.length_eq_zero_iff.1 (by rw [len_list]; omega)
  rw [this]; rfl
set_option maxRecDepth 20000 in
theorem mk_list (t : ByteArray) (R : List UInt8) (h : t.data.toList = R) : t = ⟨R.toArray⟩ := by
  rw [← h]
end Pl
end Go.Proofs.YtdjghniinnfncaaGreatDoor
namespace Go.Proofs.YtdjghniinnfncaaGreatDoor
open Go.RowKit Go.Lib
namespace Pl
/-- Runs of blanks as one space; the flag: a space has been written last. -/
def rn : Bool → List UInt8 → List UInt8
  | _, [] => []
  | sp, c :: r => if blank c then (if sp then rn true r else 32 :: rn true r) else c :: rn false r
def lastSp (p : List UInt8) : Bool := p.getLast? == some 32
def bareEnd (p : List UInt8) : List UInt8 := if lastSp p then p.dropLast else p
def runs (l : List UInt8) : List UInt8 := bareEnd (rn false l)
set_option maxRecDepth 20000 in
theorem last_snoc (p : List UInt8) (c : UInt8) : lastSp (p ++ [c]) = (c == 32) := by
  unfold lastSp
  rw [List.getLast?_append, List.getLast?_singleton]
  simp
set_option maxRecDepth 20000 in
theorem rn_skip (l p X : List UInt8) (k : Nat) (hk : k < l.length) (hb : blank l[k] = true) (hs : lastSp p = true) (h : Hid (p ++ rn (lastSp p) (l.drop k) = X)) : Hid (p ++ rn (lastSp p) (l.drop (k + 1)) = X) := by
  have h := h.out
  rw [List.drop_eq_getElem_cons hk, rn, if_pos hb, hs, if_pos rfl] at h
  rw [hs]
  exact h
set_option maxRecDepth 20000 in
theorem rn_space (l p X : List UInt8) (k : Nat) (hk : k < l.length) (hb : blank l[k] = true) (hs : lastSp p = false) (h : Hid (p ++ rn (lastSp p) (l.drop k) = X)) : Hid ((p ++ [32]) ++ rn (lastSp (p ++ [32])) (l.drop (k + 1)) = X) := by
  have h := h.out
  rw [List.drop_eq_getElem_cons hk, rn, if_pos hb, hs, if_neg (by simp)] at h
  show _ = _
  rw [last_snoc, show ((32 : UInt8) == 32) = true from rfl, ← h]
  simp
set_option maxRecDepth 20000 in
theorem rn_byte (l p X : List UInt8) (k : Nat) (hk : k < l.length) (hb : blank l[k] = false) (h : Hid (p ++ rn (lastSp p) (l.drop k) = X)) : Hid ((p ++ [l[k]]) ++ rn (lastSp (p ++ [l[k]])) (l.drop (k + 1)) = X) := by
  have h := h.out
  rw [List.drop_eq_getElem_cons hk, rn, if_neg (by rw [hb]; simp)] at h
  have h32 : (l[k] == 32) = false := by
    unfold blank at hb
    rw [Bool.or_eq_false_iff] at hb
    exact hb.1
  show _ = _
  rw [last_snoc, h32, ← h]
  simp
set_option maxRecDepth 20000 in
theorem rn_end (l p X : List UInt8) (k : Nat) (hk : l.length ≤ k) (h : Hid (p ++ rn (lastSp p) (l.drop k) = X)) : p = X := by
  have h := h.out
  rw [List.drop_eq_nil_of_le hk, rn, List.append_nil] at h
  exact h
set_option maxRecDepth 20000 in
theorem last_get (p : List UInt8) (h : 0 < p.length) : lastSp p = (p[p.length - 1] == 32) := by
  unfold lastSp
  rw [List.getLast?_eq_getElem?, List.getElem?_eq_getElem (by omega)]
  rfl
end Pl
set_option maxRecDepth 20000 in
theorem Own.cut {B g n cap : Nat} {p : List UInt8} {w : World} (h : Own B (.slice (some ⟨g, 0, none⟩) n cap) p w) (k : Nat) (hk : k ≤ p.length) : Own B (.slice (some ⟨g, 0, none⟩) k cap) (p.take k) w := by
  obtain ⟨h1, h2⟩ := h
  have hl : (p.take k).length = k := by rw [List.length_take]; omega
  refine ⟨by rw [byteCells_length, Nat.mul_one], .inr ?_⟩
  rcases h2 with ⟨h2, -⟩ | ⟨g', cap', cur, e1, e2, e3, e4, e5, e6, e7⟩
  · cases h2
  · have e8 := e1
    cases e8
    refine ⟨g, cap, cur, by rw [hl], e2, e3, by omega, e5, e6, ?_⟩
    rw [hl, Nat.mul_one]
    have e9 : cur.toList.take p.length = byteCells p := by rw [← e7, Nat.mul_one]
    have e10 := congrArg (List.take k) e9
    rw [List.take_take, Nat.min_eq_left hk] at e10
    rw [e10]
    simp [byteCells, List.map_take]
end Go.Proofs.YtdjghniinnfncaaGreatDoor
namespace Go.Proofs.YtdjghniinnfncaaGreatDoor
open Go.RowKit Go.Lib
end Go.Proofs.YtdjghniinnfncaaGreatDoor
namespace Go.Proofs.YtdjghniinnfncaaGreatDoor
open Go.RowKit Go.Lib
end Go.Proofs.YtdjghniinnfncaaGreatDoor
namespace Go.Proofs.YtdjghniinnfncaaGreatDoor
namespace Pl
/-- A byte of a field's name. -/
def nb (c : UInt8) : Bool := decide (33 ≤ c.toNat) && (decide (c.toNat ≤ 126) && !(c == 58))
def nameOk (l : List UInt8) : Bool := !l.isEmpty && (decide (l.length ≤ 70) && l.all nb)
def okF (f : ByteArray × ByteArray) : Bool := decide (f.2.size ≤ 100000) && (nameOk f.1.data.toList && val f.2.data.toList)
def line (f : ByteArray × ByteArray) : List UInt8 := f.1.data.toList ++ [58] ++ f.2.data.toList ++ [13, 10]
/-- What is written behind what is there. -/
def hd : List UInt8 → List (ByteArray × ByteArray) → List UInt8
  | out, [] => out
  | out, f :: r => if okF f then (if 100000 < (out ++ line f).length then [] else hd (out ++ line f) r) else []
set_option maxRecDepth 20000 in
theorem hd_bad (p x : List UInt8) (F : List (ByteArray × ByteArray)) (k : Nat) (hk : k < F.length) (h : okF F[k] = false) (hp : hd p (F.drop k) = x) : x = [] := by
  rw [List.drop_eq_getElem_cons hk, hd, if_neg (by rw [h]; simp)] at hp
  exact hp.symm
set_option maxRecDepth 20000 in
theorem hd_long (p x : List UInt8) (F : List (ByteArray × ByteArray)) (k : Nat) (hk : k < F.length) (h : okF F[k] = true) (hl : 100000 < (p ++ line F[k]).length) (hp : hd p (F.drop k) = x) : x = [] := by
  rw [List.drop_eq_getElem_cons hk, hd, if_pos h, if_pos hl] at hp
  exact hp.symm
set_option maxRecDepth 20000 in
theorem hd_step (p x : List UInt8) (F : List (ByteArray × ByteArray)) (k : Nat) (hk : k < F.length) (h : okF F[k] = true) (hl : ¬ 100000 < (p ++ line F[k]).length) (hp : hd p (F.drop k) = x) : hd (p ++ line F[k]) (F.drop (k + 1)) = x := by
  rw [List.drop_eq_getElem_cons hk, hd, if_pos h, if_neg hl] at hp
  exact hp
set_option maxRecDepth 20000 in
theorem hd_done (p x : List UInt8) (F : List (ByteArray × ByteArray)) (k : Nat) (hk : F.length ≤ k) (hp : hd p (F.drop k) = x) : x = p := by
  rw [List.drop_eq_nil_of_le hk, hd] at hp
  exact hp.symm
set_option maxRecDepth 20000 in
theorem okF_size (f : ByteArray × ByteArray) (h : ¬ f.2.size ≤ 100000) : okF f = false := by simp [okF, h]
set_option maxRecDepth 20000 in
theorem okF_name (f : ByteArray × ByteArray) (h : nameOk f.1.data.toList = false) : okF f = false := by simp [okF, h]
set_option maxRecDepth 20000 in
theorem okF_val (f : ByteArray × ByteArray) (h : val f.2.data.toList = false) : okF f = false := by simp [okF, h]
set_option maxRecDepth 20000 in
theorem okF_mk (f : ByteArray × ByteArray) (h : f.2.size ≤ 100000) (h1 : nameOk f.1.data.toList = true) (h2 : val f.2.data.toList = true) : okF f = true := by simp [okF, h, h1, h2]
set_option maxRecDepth 20000 in
theorem nameOk_size (f : ByteArray) (h : nameOk f.data.toList = true) : f.size ≤ 70 := by
  simp [nameOk] at h
  exact h.2.1
set_option maxRecDepth 20000 in
theorem line_len (f : ByteArray × ByteArray) : (line f).length = f.1.size + f.2.size + 3 := by simp [line]; omega
end Pl
open Go.RowKit Go.Lib
set_option maxRecDepth 20000 in
/-- A block of another type lies beside the bytes. -/
theorem Own.beside {B : Nat} {v : Value} {p : List UInt8} {w : World} (h : Own B v p w) {fv : Nat} {cs : Array Value} {t : TypeId} {z : Nat × Nat} (ht : t ≠ 5) (hf : w.heap[fv]? = some (.cells cs t z)) : v.ownBlock ≠ some fv := by
  intro e
  rcases h.2 with ⟨rfl, -⟩ | ⟨g, cap, cur, rfl, -, hg, -⟩
  · cases e
  · cases e
    rw [hf] at hg
    simp only [Option.some.injEq, Obj.cells.injEq] at hg
    exact ht hg.2.1
set_option maxRecDepth 20000 in
theorem grown_beside {w w' : World} {row : Option Nat} (hg : w.grownBy w' row) {fv : Nat} {ob : Obj} (hf : w.heap[fv]? = some ob) (hne : row ≠ some fv) : w'.heap[fv]? = some ob := by
  have hlt : fv < w.heap.size := by
    by_cases h : fv < w.heap.size
    · exact h
    · rw [Array.getElem?_eq_none (by omega)] at hf; cases hf
  rw [← hf]
  exact hg.block fv hlt (fun e => hne e.symm)
set_option maxRecDepth 20000 in
/-- An append of some bytes, beside a variable. -/
theorem wp_app_v {P : Program} {W w : World} {ops : Array Oper} {rest : List Oper} {o : Oper} {a : Act} {Q : Exit → Act → World → Prop} (hgd : o.guard = none) (s x : Operand) (t : TypeId)
    (ho : o.op = .call { callee := .builtin .append, args := #[s, x], argTypes := #[t, t] })
    (i : TypeInfo) (ht : P.underlying t = some (.slice 5)) (hi : P.info? 5 = some i) (hz : i.zero = some (.int .u8 0)) (hsize : i.size = 1) (hby : i.bytes = 1)
    (B : Nat) (v : Value) (p : List UInt8) (hs : a.eval s = v) (hown : Own B v p w) (cs : Array Value) (news : List UInt8) (hcs : cs.toList = byteCells news)
    (n c : Nat) (hn : n = news.length) (hx : a.eval x = .slice (some ⟨w.heap.size, 0, none⟩) n c) (hlen : p.length + news.length ≤ 140737488355328) (hB : B ≤ W.heap.size) (hb : Below B W w)
    (fv : Nat) (ob : Array Value) (tv : TypeId) (z : Nat × Nat) (htv : tv ≠ 5) (hfv : w.heap[fv]? = some (.cells ob tv z))
    (h : ∀ v' w', Own B v' (p ++ news) w' → Below B W w' → w'.heap[fv]? = some (.cells ob tv z) → wpList P ops Q rest (a.put o.dst v') w') : wpList P ops Q (o :: rest) a (w.alloc (.cells cs 5)) := by
  subst hn
  have hsz := hb.size
  have hlt : fv < w.heap.size := by
    by_cases h : fv < w.heap.size
    · exact h
    · rw [Array.getElem?_eq_none (by omega)] at hfv; cases hfv
  refine wpList_append_own _ hgd s x t ho B 5 i (.int .u8 0) 1 1 ht hi hz hsize hby rfl (by decide) v p.length (byteCells p) hs (hown.alloc _) ⟨w.heap.size, 0, none⟩ news.length c (byteCells news) hx
    (by rw [byteCells_length, Nat.mul_one]) ?_ ?_ (by unfold maxLen; omega) (by omega) (by simp; omega) ?_
  · intro j u hj
    have e2 : cs[j]? = some u := by rw [← Array.getElem?_toList, hcs]; exact hj
    rw [add_off]
    simp [e2]
  · intro u hu
    simp only [byteCells, List.mem_map] at hu
    obtain ⟨b, -, rfl⟩ := hu
    rfl
  · intro v' w' h1 h2 _
    refine h v' w' ?_ ?_ ?_
    · unfold Own
      rw [byteCells_append, List.length_append]
      exact h1
    · exact (hb.alloc (by omega) _).grown h2 (by simp; omega) (fun k hk => (World.ownsRow.lt hown k hk).1)
    · exact grown_beside h2 ((Below.heap_alloc w _ fv hlt).trans hfv) (hown.beside htv hfv)
set_option maxRecDepth 20000 in
/-- An append of a text, beside a variable. -/
theorem wp_apps_v {P : Program} {W w : World} {ops : Array Oper} {rest : List Oper} {o : Oper} {a : Act} {Q : Exit → Act → World → Prop} (hgd : o.guard = none) (s x : Operand) (t u : TypeId)
    (ho : o.op = .call { callee := .builtin .append, args := #[s, x], argTypes := #[t, u] })
    (i : TypeInfo) (ht : P.underlying t = some (.slice 5)) (hu : P.underlying u = some .string) (hi : P.info? 5 = some i) (hz : i.zero = some (.int .u8 0)) (hsize : i.size = 1) (hby : i.bytes = 1)
    (B : Nat) (v : Value) (p : List UInt8) (hs : a.eval s = v) (hown : Own B v p w) (news : ByteArray)
    (hx : a.eval x = .string news) (hlen : p.length + news.size ≤ 140737488355328) (hB : B ≤ W.heap.size) (hb : Below B W w)
    (fv : Nat) (ob : Array Value) (tv : TypeId) (z : Nat × Nat) (htv : tv ≠ 5) (hfv : w.heap[fv]? = some (.cells ob tv z))
    (h : ∀ v' w', Own B v' (p ++ news.data.toList) w' → Below B W w' → w'.heap[fv]? = some (.cells ob tv z) → wpList P ops Q rest (a.put o.dst v') w') : wpList P ops Q (o :: rest) a w := by
  have hsz := hb.size
  refine wpList_append_own_string _ hgd s x t u ho B 5 i ht hu hi hz hsize hby v p.length (byteCells p) hs hown news hx (by unfold maxLen; omega) hlen (by omega) ?_
  intro v' w' h1 h2 _
  refine h v' w' ?_ ?_ ?_
  · unfold Own
    rw [byteCells_append, List.length_append]
    exact h1
  · exact hb.grown h2 (by omega) (fun k hk => (World.ownsRow.lt hown k hk).1)
  · exact grown_beside h2 hfv (hown.beside htv hfv)
end Go.Proofs.YtdjghniinnfncaaGreatDoor
namespace Go.Proofs.YtdjghniinnfncaaGreatDoor
open Go.RowKit Go.Lib
set_option maxRecDepth 20000 in
theorem nb_cases (c : UInt8) : c.toNat < 33 ∧ Pl.nb c = false ∨ 33 ≤ c.toNat ∧ 126 < c.toNat ∧ Pl.nb c = false ∨ 33 ≤ c.toNat ∧ c.toNat ≤ 126 ∧ ((c.toNat : Int) == 58) = true ∧ Pl.nb c = false ∨ 33 ≤ c.toNat ∧ c.toNat ≤ 126 ∧ ((c.toNat : Int) == 58) = false ∧ Pl.nb c = true := by
  by_cases h1 : c.toNat < 33
  · exact .inl ⟨h1, by simp [Pl.nb]; omega⟩
  · by_cases h2 : 126 < c.toNat
    · exact .inr (.inl ⟨by omega, h2, by simp [Pl.nb]; omega⟩)
    · cases h3 : ((c.toNat : Int) == 58)
      · refine .inr (.inr (.inr ⟨by omega, by omega, rfl, ?_⟩))
        have := Pl.byte_ne c 58 _ rfl h3
        simp [Pl.nb, this]; omega
      · refine .inr (.inr (.inl ⟨by omega, by omega, rfl, ?_⟩))
        rw [Pl.byte_eq c 58 _ rfl h3]; rfl
end Go.Proofs.YtdjghniinnfncaaGreatDoor
namespace Go.Proofs.YtdjghniinnfncaaGreatDoor
open Go.RowKit Go.Lib
set_option maxRecDepth 20000 in
/-- A field's variable: its two cells. -/
theorem var_cells {w : World} {g : Nat} {n v : ByteArray} {t : TypeId} {z : Nat × Nat} (h : w.heap[g]? = some (.cells #[.string n, .string v] t z)) :
    w.cell? ⟨g, 0, none⟩ = some (.string n) ∧ w.cell? ⟨g, 1, none⟩ = some (.string v) := by
  constructor <;> simp [World.cell?, h]
set_option maxRecDepth 20000 in
theorem Own.some_len {B : Nat} {v : Value} {p : List UInt8} {w : World} (h : Own B v p w) (hp : 0 < p.length) : ∃ g cap L, v = .slice (some ⟨g, 0, none⟩) L cap ∧ L = p.length := by
  rcases h.form with ⟨rfl, rfl⟩ | ⟨g, cap, rfl⟩
  · simp at hp
  · exact ⟨g, cap, _, rfl, rfl⟩
end Go.Proofs.YtdjghniinnfncaaGreatDoor
