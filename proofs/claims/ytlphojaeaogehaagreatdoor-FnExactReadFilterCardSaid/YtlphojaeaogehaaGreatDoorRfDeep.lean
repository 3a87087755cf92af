
/- How deep a filter's nodes are, the specification's side. -/
import Derived.Test.YtlphojaeaogehaaGreatDoorRfDepth
namespace Go.Proofs.YtlphojaeaogehaaGreatDoor
open Go.RowKit Go.Lib Go.Maps
set_option maxRecDepth 20000 in
set_option maxHeartbeats 4000000 in
theorem specDeep (o : Option Addr) (F : List Nd) (cap : Nat) (w : World) (hF : Nds w.heap.size w o F) (hlF : F.length ≤ 2000) (h1 : 1 ≤ F.length) (hfit : ∀ n ∈ F, n.fits 1048576) (hin : ∀ i, i < F.length → ∀ k ∈ Fn.kids F i, 0 ≤ k ∧ k < (i : Int)) :
    Calls Tryz.prog 12 #[.slice o F.length cap] w fun e w' => e = .returned (.int .i64 (Tr.depTo (Fn.kids F) F.length (F.length - 1))) ∧ Below w.heap.size w w' := by
  have hmk := run_make_row' (P := Tryz.prog) 35 2 (.int .i64 0) 8 Tryz.underlying35 Tryz.info2 rfl .i64 .i64 F.length (by omega) (by omega)
  have HF := mkHid hF
  have Hin := mkHid hin
  clear hF hin
  go_enter Tryz.func12, Tryz.ntmps12
  go_wp2
  clear hmk
  generalize hG : w.heap.size = G at *
  go_loopw [4] (fun iv wr => ∃ (i : Nat) (d : Nat → Nat), i ≤ F.length ∧ iv = .int .i64 i ∧ wr.rowIs G 2 F.length (fun j => .int .i64 (d j)) ∧ Hid ((∀ j, j < i → d j = Tr.depTo (Fn.kids F) i j) ∧ ∀ j, i ≤ j → d j = 0) ∧ Below G w wr) (fun iv _ => F.length - (Lib.intOf iv).toNat)
  case atStart => exact ⟨0, fun _ => 0, Nat.zero_le _, rfl, hG ▸ World.rowIs_made w (.int .i64 0) F.length 2, ⟨fun j h => by omega, fun _ _ => rfl⟩, (Below.refl _ _).alloc (by omega) _⟩
  case round =>
    obtain ⟨i, d, hi, rfl, hrow, hd, hb⟩ := hrel
    by_cases hlt : i < F.length
    · obtain ⟨a, v4, v5, v6, rfl, ha, hA0, hI⟩ := HF.out i hlt
      have hA := mkHid (fun (W : World) (hb : Below G w W) => hA0.below hb (by rw [add_blockN]; exact ha))
      clear hA0
      obtain ⟨⟨a4, e4, rfl, -⟩, ⟨a5, e5, rfl, -⟩, ⟨a6, e6, rfl, t3⟩⟩ := hI
      have hkids : Hid (Fn.kids F i = F[i].kids) := by show Fn.kids F i = _; unfold Fn.kids; rw [List.getElem?_eq_getElem hlt]; rfl
      have hkin := mkHid (fun k hk => Hin.out i hlt k (by rw [hkids.out]; exact hk))
      have hkl : F[i].kids.length ≤ 1048576 := (hfit F[i] (List.getElem_mem hlt)).2.2.2.2.2
      replace t3 := mkHid t3
      generalize F[i] = n at *
      have hrow2 := mkHid hrow
      have hb3 := mkHid hb
      go_wp2
      go_loopw [5] (fun cv wr => ∃ (c : Nat) (d' : Nat → Nat), c ≤ n.kids.length ∧ cv = .int .i64 c ∧ wr.rowIs G 2 F.length (fun j => .int .i64 (d' j)) ∧ Hid ((∀ j, j ≠ i → d' j = d j) ∧ d' i = Tr.mx (Tr.depTo (Fn.kids F) i) (n.kids.take c)) ∧ Below G w wr) (fun cv _ => n.kids.length - (Lib.intOf cv).toNat)
      case atStart => exact ⟨0, d, Nat.zero_le _, rfl, hrow2.out, ⟨fun _ _ => rfl, hd.out.2 i (Nat.le_refl _)⟩, hb3.out⟩
      case round =>
        clear hrow hb hrow2 hb3
        obtain ⟨c, d', hc, rfl, hrow, hd', hb⟩ := hrel
        have c6 := (hA.out _ hb).c6
        by_cases hcl : c < n.kids.length
        · obtain ⟨b, rfl, hbb, ck⟩ := (t3.out.below hb) c hcl
          obtain ⟨k1, k2⟩ := hkin.out n.kids[c] (List.getElem_mem hcl)
          obtain ⟨q, hq⟩ : ∃ q : Nat, n.kids[c] = (q : Int) := ⟨n.kids[c].toNat, by omega⟩
          have hst : Hid (n.kids.take (c + 1) = n.kids.take c ++ [(q : Int)]) := by show _ = _; rw [List.take_succ_eq_append_getElem hcl, hq]
          rw [hq] at ck k2
          have hqi : q < i := by omega
          have hqF : (q : Int) < (F.length : Int) := by omega
          have hiF : (i : Int) < (F.length : Int) := by omega
          have r1 := hrow.cell (i := i) hlt
          have r2 := hrow.cell (i := q) (by omega)
          obtain ⟨x, hx⟩ : ∃ x, d' i = x := ⟨_, rfl⟩
          obtain ⟨y, hy⟩ : ∃ y, d' q = y := ⟨_, rfl⟩
          simp only [hx] at r1
          simp only [hy] at r2
          replace hx := mkHid hx
          replace hy := mkHid hy
          have Hcl := mkHid hcl
          have Hrow := mkHid hrow
          have Hb := mkHid hb
          have Hq := mkHid hq
          clear hrow hb hq k1 k2
          by_cases hxy : x < y
          · have dxy : decide ((x : Int) < (y : Int)) = true := decide_eq_true (by omega)
            go_wp2
            go_quiet (fail)
            have hrN := row_below Hrow.out (below_drewN (Below.refl _ _) nq)
            have hbN := below_drewN Hb.out nq
            have z1 := hrN.frozen i
            have r1' := hrN.cell (i := i) hlt
            have r2' := hrN.cell (i := q) (by omega)
            simp only [hx.out] at r1'
            simp only [hy.out] at r2'
            have c6' := (hA.out _ hbN).c6
            obtain ⟨b', eb', hbb', ck'⟩ := (t3.out.below hbN) c Hcl.out
            obtain rfl := Option.some.inj eb'
            rw [show n.kids[c] = (q : Int) from Hq.out] at ck'
            have hrow1 := mkHid (fun v => hrN.set i v)
            have hb1 := mkHid (fun v => hbN.setCell (p := ⟨G, i, none⟩) (Nat.le_refl _) v)
            clear hrN hbN eb' r1 r2 c6 ck
            go_wp2
            go_roundw
            case rel =>
              refine ⟨c + 1, fun j => if j = i then y else d' j, Nat.succ_le_of_lt Hcl.out, by go_num, (hrow1.out _).congr (fun j _ => by show (if j = i then Value.int .i64 _ else Value.int .i64 (d' j)) = Value.int .i64 _; split <;> rename_i h <;> simp [h]), ⟨fun j hj => by show (if j = i then _ else _) = _; rw [if_neg hj]; exact hd'.out.1 j hj, ?_⟩, hb1.out _⟩
              show (if i = i then _ else _) = _
              rw [if_pos rfl, hst.out, Tr.mx_snoc, Int.toNat_natCast, ← hd.out.1 q hqi, ← hd'.out.1 q (by omega), ← hd'.out.2, hx.out, hy.out]
              omega
            case measure => have := Hcl.out; simp [Lib.intOf]; omega
          · have dxy : decide ((x : Int) < (y : Int)) = false := decide_eq_false (by omega)
            go_wp2
            go_quiet (fail)
            have hrN := mkHid (row_below Hrow.out (below_drewN (Below.refl _ _) nq))
            have hbN := mkHid (below_drewN Hb.out nq)
            go_wp2
            go_roundw
            case rel =>
              refine ⟨c + 1, d', Nat.succ_le_of_lt Hcl.out, by go_num, hrN.out, ⟨hd'.out.1, ?_⟩, hbN.out⟩
              rw [hst.out, Tr.mx_snoc, Int.toNat_natCast, ← hd.out.1 q hqi, ← hd'.out.1 q (by omega), ← hd'.out.2, hx.out, hy.out]
              omega
            case measure => have := Hcl.out; simp [Lib.intOf]; omega
        · have he : Hid (n.kids.take c = n.kids) := List.take_of_length_le (by omega)
          have r1 := hrow.cell (i := i) hlt
          have z1 := hrow.frozen i
          have hrow1 := mkHid (fun v => hrow.set i v)
          have hb1 := mkHid (fun v => hb.setCell (p := ⟨G, i, none⟩) (Nat.le_refl _) v)
          have hiF : (i : Int) < (F.length : Int) := by omega
          obtain ⟨x, hx⟩ : ∃ x, d' i = x := ⟨_, rfl⟩
          simp only [hx] at r1
          have hxl : x ≤ 1000000 := by
            have h1 : Tr.mx (Tr.depTo (Fn.kids F) i) n.kids ≤ i := (Tr.mx_le _ _ _).2 (fun k _ => Tr.depTo_le (Fn.kids F) i k.toNat)
            rw [← he.out, ← hd'.out.2, hx] at h1
            omega
          replace hx := mkHid hx
          clear hrow hb
          go_wp2
          go_roundw
          case rel =>
            refine ⟨i + 1, fun j => if j = i then x + 1 else d' j, by omega, by go_num, (hrow1.out _).congr (fun j _ => by show (if j = i then Value.int .i64 _ else Value.int .i64 (d' j)) = Value.int .i64 _; split <;> rename_i h <;> simp [h]), ⟨fun j hj => ?_, fun j hj => ?_⟩, hb1.out _⟩
            · show (if j = i then _ else _) = _
              unfold Tr.depTo
              by_cases hji : j = i
              · rw [if_pos hji, if_pos hji, ← hx.out, hd'.out.2, he.out, hkids.out]
              · rw [if_neg hji, if_neg hji, hd'.out.1 j hji, hd.out.1 j (by omega)]
            · show (if j = i then _ else _) = _
              rw [if_neg (by omega), hd'.out.1 j (by omega), hd.out.2 j (by omega)]
          case measure => simp [Lib.intOf]; omega
    · obtain rfl : i = F.length := by omega
      have r1 := hrow.cell (i := F.length - 1) (by omega)
      have hz : Hid (d (F.length - 1) = Tr.depTo (Fn.kids F) F.length (F.length - 1)) := hd.out.1 _ (by omega)
      obtain ⟨m, hm⟩ : ∃ m, F.length = m + 1 := ⟨F.length - 1, by omega⟩
      rw [show F.length - 1 = m by omega] at r1 hz
      have hmI : (F.length : Int) - 1 = (m : Int) := by omega
      have hml : m < F.length := by omega
      have hme : Hid (F.length - 1 = m) := by show _ = _; omega
      replace hm := mkHid hm
      clear hrow hd
      go_wp2
      go_ret
      rw [hme.out, ← hz.out, hG]
      exact ⟨rfl, hb⟩
end Go.Proofs.YtlphojaeaogehaaGreatDoor
