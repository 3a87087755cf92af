
/- How deep a filter's nodes are, the program's side. -/
import Derived.Test.YtonnmbkfjiddnaaNodeOneTree
namespace Go.Proofs.Ytonnmbkfjiddnaa
open Go.RowKit Go.Lib Go.Maps
theorem Try.info3 : (Try.prog.info? 3).map (fun i => (i.zero, i.size, i.bytes)) = some (some (.int .i64 0), 1, 8) := by kernel_rfl
theorem row_below {w w' : World} {b t n : Nat} {f : Nat → Value} (h : w.rowIs b t n f) (hb : Below w.heap.size w w') : w'.rowIs b t n f := by
  have hl := h.lt
  unfold World.rowIs at h ⊢
  rw [hb.block b hl]
  exact h
set_option maxHeartbeats 2000000 in
set_option maxRecDepth 20000 in
theorem implDepth (o : Option Addr) (F : List Nd) (cap : Nat) (w : World) (hF : Nds w.heap.size w o F) (hlF : F.length ≤ 2000) (h1 : 1 ≤ F.length) (hfit : ∀ n ∈ F, n.fits 1048576) (hin : ∀ i, i < F.length → ∀ k ∈ Fn.kids F i, 0 ≤ k ∧ k < (i : Int)) :
    Calls Try.prog 51 #[.slice o F.length cap] w fun e w' => e = .returned (.int .i64 (Tr.depTo (Fn.kids F) F.length (F.length - 1))) ∧ Below w.heap.size w w' := by
  have hmk := run_make_row' (P := Try.prog) 73 3 (.int .i64 0) 8 Try.underlying73 Try.info3 rfl .i64 .i64 F.length (by omega) (by omega)
  have HF := mkHid hF
  have Hin := mkHid hin
  clear hF hin
  go_enter Try.func51, Try.ntmps51
  go_wp2
  clear hmk
  generalize hG : w.heap.size = G at *
  go_loopw [13] (fun iv wr => ∃ (i : Nat) (d : Nat → Nat), i ≤ F.length ∧ iv = .int .i64 i ∧ wr.rowIs G 3 F.length (fun j => .int .i64 (d j)) ∧ Hid ((∀ j, j < i → d j = Tr.depTo (Fn.kids F) i j) ∧ ∀ j, i ≤ j → d j = 0) ∧ Below G w wr) (fun iv _ => F.length - (Lib.intOf iv).toNat)
  case atStart => exact ⟨0, fun _ => 0, Nat.zero_le _, rfl, hG ▸ World.rowIs_made w (.int .i64 0) F.length 3, ⟨fun j h => by omega, fun _ _ => rfl⟩, (Below.refl _ _).alloc (by omega) _⟩
  case round =>
    obtain ⟨i, d, hi, rfl, hrow, hd, hb⟩ := hrel
    by_cases hlt : i < F.length
    · obtain ⟨a, v4, v5, v6, rfl, ha, hA0, hI⟩ := HF.out i hlt
      have hA := hA0.below hb (by rw [add_blockN]; exact ha)
      clear hA0
      obtain ⟨⟨a4, e4, rfl, -⟩, ⟨a5, e5, rfl, -⟩, ⟨a6, e6, rfl, t3⟩⟩ := hI
      have hkids : Hid (Fn.kids F i = F[i].kids) := by show Fn.kids F i = _; unfold Fn.kids; rw [List.getElem?_eq_getElem hlt]; rfl
      have hkin := mkHid (fun k hk => Hin.out i hlt k (by rw [hkids.out]; exact hk))
      have c0 := hA.c0
      have c1 := hA.c1
      have c2 := hA.c2
      have c3 := hA.c3
      have c4 := hA.c4
      have c5 := hA.c5
      have c6 := hA.c6
      have hkl : F[i].kids.length ≤ 1048576 := (hfit F[i] (List.getElem_mem hlt)).2.2.2.2.2
      replace t3 := mkHid t3
      have hGl := hrow.lt
      have hsz := hb.size
      clear hA
      generalize F[i] = n at *
      have hrow0 := mkHid (hrow.alloc (.cells #[.int .i64 n.kind, .int .i64 n.num, .int .i64 n.mat, .string n.text, .slice a4 n.names.length e4, .slice a5 n.keys.length e5, .slice a6 n.kids.length e6] 44))
      have hb0 := mkHid (hb.alloc (by omega) (.cells #[.int .i64 n.kind, .int .i64 n.num, .int .i64 n.mat, .string n.text, .slice a4 n.names.length e4, .slice a5 n.keys.length e5, .slice a6 n.kids.length e6] 44))
      obtain ⟨V, hV⟩ : ∃ V, V = wr.alloc (.cells #[.int .i64 n.kind, .int .i64 n.num, .int .i64 n.mat, .string n.text, .slice a4 n.names.length e4, .slice a5 n.keys.length e5, .slice a6 n.kids.length e6] 44) := ⟨_, rfl⟩
      have cM0 := methKidsB n (.slice a4 n.names.length e4) (.slice a5 n.keys.length e5) (.slice a6 n.kids.length e6) V
      unfold ndV at cM0
      have cM := mkHid cM0
      rw [← hV] at hrow0 hb0
      have hbV : Below wr.heap.size wr V := by rw [hV]; exact (Below.refl _ _).alloc (Nat.le_refl _) _
      replace hbV := mkHid hbV
      replace hV := mkHid hV
      clear cM0
      obtain ⟨wo, hwo⟩ : ∃ wo, wo = wr := ⟨_, rfl⟩
      go_wp2_with fail
      rw [← hV.out]
      refine cM.out.mono ?_
      rintro e V2 ⟨rfl, hb2⟩
      have hGV : G ≤ V.heap.size := Nat.le_trans (hG ▸ hsz) hbV.out.size
      have hrow2 := mkHid (row_below hrow0.out hb2)
      have hb3 := mkHid (hb0.out.trans (hb2.mono hGV))
      have hbw2 := mkHid (hbV.out.trans (hb2.mono hbV.out.size))
      clear hrow0 hb0 cM hb2 hV
      subst hwo
      go_wp2
      clear c0 c1 c2 c3 c4 c5 c6
      go_loopw [7, 22] (fun _ cv wr => ∃ (c : Nat) (d' : Nat → Nat), c ≤ n.kids.length ∧ cv = .int .i64 c ∧ wr.rowIs G 3 F.length (fun j => .int .i64 (d' j)) ∧ Hid ((∀ j, j ≠ i → d' j = d j) ∧ d' i = Tr.mx (Tr.depTo (Fn.kids F) i) (n.kids.take c)) ∧ Below G w wr) (fun _ cv _ => n.kids.length - (Lib.intOf cv).toNat)
      case atStart => exact ⟨0, d, Nat.zero_le _, rfl, hrow2.out, ⟨fun _ _ => rfl, hd.out.2 i (Nat.le_refl _)⟩, hb3.out⟩
      case round =>
        clear hrow hb hrow2 hb3 hbw2 hbV
        obtain ⟨c, d', hc, rfl, hrow, hd', hb⟩ := hrel
        by_cases hcl : c < n.kids.length
        · obtain ⟨b, rfl, hbb, ck⟩ := (t3.out.below hb) c hcl
          obtain ⟨k1, k2⟩ := hkin.out n.kids[c] (List.getElem_mem hcl)
          obtain ⟨q, hq⟩ : ∃ q : Nat, n.kids[c] = (q : Int) := ⟨n.kids[c].toNat, by omega⟩
          have hst : Hid (n.kids.take (c + 1) = n.kids.take c ++ [(q : Int)]) := by show _ = _; rw [List.take_succ_eq_append_getElem hcl, hq]
          rw [hq] at ck k2
          have hqi : q < i := by omega
          have r1 := hrow.cell (i := i) hlt
          have r2 := hrow.cell (i := q) (by omega)
          have z1 := hrow.frozen i
          have hrow1 := mkHid (fun v => hrow.drew.set i v)
          have hb1 := mkHid (fun v => hb.drew.setCell (p := ⟨G, i, none⟩) (Nat.le_refl _) v)
          obtain ⟨x, hx⟩ : ∃ x, d' i = x := ⟨_, rfl⟩
          obtain ⟨y, hy⟩ : ∃ y, d' q = y := ⟨_, rfl⟩
          simp only [hx] at r1
          simp only [hy] at r2
          replace hx := mkHid hx
          replace hy := mkHid hy
          have hmx : max (x : Int) (y : Int) = ((max x y : Nat) : Int) := by omega
          have Hcl := mkHid hcl
          clear hrow hb hq k1 k2
          go_wp2
          refine wp_region_any (by kernel_rfl) ?_
          refine wpAny_take (i := 0) (v := .slice (some ⟨G, 0, none⟩) F.length F.length) rfl (by kernel_rfl) (by kernel_rfl) (by kernel_rfl) (fun _ _ _ h => h) (Or.inl ⟨by rfl, ?_⟩) ?_
          · intro w
            go_simp
            all_goals first | done | omega | (intro h; exfalso; omega)
          go_simp
          refine wpAny_take (i := 1) (v := .int .i64 i) rfl (by kernel_rfl) (by kernel_rfl) (by kernel_rfl) (fun _ _ _ h => h) (Or.inl ⟨by rfl, ?_⟩) ?_
          · intro w
            go_simp
            all_goals first | done | omega | (intro h; exfalso; omega)
          go_simp
          refine wpAny_take (i := 2) (v := .slice (some ⟨G, 0, none⟩) F.length F.length) rfl (by kernel_rfl) (by kernel_rfl) (by kernel_rfl) (fun _ _ _ h => h) (Or.inl ⟨by rfl, ?_⟩) ?_
          · intro w
            go_simp
            all_goals first | done | omega | (intro h; exfalso; omega)
          go_simp
          refine wpAny_take (i := 3) (v := .int .i64 i) rfl (by kernel_rfl) (by kernel_rfl) (by kernel_rfl) (fun _ _ _ h => h) (Or.inl ⟨by rfl, ?_⟩) ?_
          · intro w
            go_simp
            all_goals first | done | omega | (intro h; exfalso; omega)
          go_simp
          refine wpAny_take (i := 4) (v := .pointer (some ⟨G, i, none⟩)) rfl (by kernel_rfl) (by kernel_rfl) (by kernel_rfl) (fun _ _ _ h => h) (Or.inl ⟨by rfl, ?_⟩) ?_
          · intro w
            go_simp
            all_goals first | done | omega | (intro h; exfalso; omega)
          go_simp
          refine wpAny_take (i := 6) (v := .slice (some ⟨G, 0, none⟩) F.length F.length) rfl (by kernel_rfl) (by kernel_rfl) (by kernel_rfl) (fun _ _ _ h => h) (Or.inl ⟨by rfl, ?_⟩) ?_
          · intro w
            go_simp
            all_goals first | done | omega | (intro h; exfalso; omega)
          go_simp
          refine wpAny_take (i := 7) (v := .int .i64 q) rfl (by kernel_rfl) (by kernel_rfl) (by kernel_rfl) (fun _ _ _ h => h) (Or.inl ⟨by rfl, ?_⟩) ?_
          · intro w
            go_simp
            all_goals first | done | omega | (intro h; exfalso; omega)
          go_simp
          refine wpAny_take (i := 8) (v := .pointer (some ⟨G, q, none⟩)) rfl (by kernel_rfl) (by kernel_rfl) (by kernel_rfl) (fun _ _ _ h => h) (Or.inl ⟨by rfl, ?_⟩) ?_
          · intro w
            go_simp
            all_goals first | done | omega | (intro h; exfalso; omega)
          go_simp
          refine wpAny_ready (rs := [5, 9]) (by kernel_rfl) (by simp) ?_
          refine AllReady.cons rfl (fun K hK => ?_) (AllReady.cons rfl (fun K hK => ?_) AllReady.nil)
          · go_simp
            refine hK _ _ ?_
            clear hK K
            go_simp
            refine wpAny_ready (rs := [9]) (by kernel_rfl) (by simp) ?_
            refine AllReady.cons rfl (fun K hK => ?_) AllReady.nil
            go_simp
            refine hK _ _ ?_
            clear hK K
            go_simp
            refine wpAny_take (i := 10) (v := .int .i64 ((max (x : Nat) y : Nat) : Int)) rfl (by kernel_rfl) (by kernel_rfl) (by kernel_rfl) (fun _ _ _ h => h) (Or.inl ⟨by rfl, ?_⟩) ?_
            · intro w
              go_simp
              all_goals first | done | omega | (intro h; exfalso; omega)
            go_simp
            refine wpAny_take (i := 11) (v := .pointer (some ⟨G, i, none⟩)) rfl (by kernel_rfl) (by kernel_rfl) (by kernel_rfl) (fun _ _ _ h => h) (Or.inl ⟨by rfl, ?_⟩) ?_
            · intro w
              go_simp
              all_goals first | done | omega | (intro h; exfalso; omega)
            go_simp
            refine wpAny_ready (rs := [12]) (by kernel_rfl) (by simp) ?_
            refine AllReady.cons rfl (fun K hK => ?_) AllReady.nil
            go_simp
            refine hK _ _ ?_
            clear hK K
            go_simp
            refine wpAny_done (by kernel_rfl) ?_ _
            go_wp2
            go_roundw
            case rel =>
              refine ⟨c + 1, fun j => if j = i then max x y else d' j, Nat.succ_le_of_lt Hcl.out, by go_num, (hrow1.out _).congr (fun j _ => by show (if j = i then Value.int .i64 _ else Value.int .i64 (d' j)) = Value.int .i64 _; split <;> rename_i h <;> simp [h]), ⟨fun j hj => by show (if j = i then _ else _) = _; rw [if_neg hj]; exact hd'.out.1 j hj, ?_⟩, hb1.out _⟩
              show (if i = i then _ else _) = _
              rw [if_pos rfl, hst.out, Tr.mx_snoc, Int.toNat_natCast, ← hx.out, hd'.out.2, ← hd.out.1 q hqi, ← hy.out, hd'.out.1 q (by omega)]
            case measure => have := Hcl.out; simp [Lib.intOf]; omega
          · go_simp
            refine hK _ _ ?_
            clear hK K
            go_simp
            refine wpAny_ready (rs := [5]) (by kernel_rfl) (by simp) ?_
            refine AllReady.cons rfl (fun K hK => ?_) AllReady.nil
            go_simp
            refine hK _ _ ?_
            clear hK K
            go_simp
            refine wpAny_take (i := 10) (v := .int .i64 ((max (x : Nat) y : Nat) : Int)) rfl (by kernel_rfl) (by kernel_rfl) (by kernel_rfl) (fun _ _ _ h => h) (Or.inl ⟨by rfl, ?_⟩) ?_
            · intro w
              go_simp
              all_goals first | done | omega | (intro h; exfalso; omega)
            go_simp
            refine wpAny_take (i := 11) (v := .pointer (some ⟨G, i, none⟩)) rfl (by kernel_rfl) (by kernel_rfl) (by kernel_rfl) (fun _ _ _ h => h) (Or.inl ⟨by rfl, ?_⟩) ?_
            · intro w
              go_simp
              all_goals first | done | omega | (intro h; exfalso; omega)
            go_simp
            refine wpAny_ready (rs := [12]) (by kernel_rfl) (by simp) ?_
            refine AllReady.cons rfl (fun K hK => ?_) AllReady.nil
            go_simp
            refine hK _ _ ?_
            clear hK K
            go_simp
            refine wpAny_done (by kernel_rfl) ?_ _
            go_wp2
            go_roundw
            case rel =>
              refine ⟨c + 1, fun j => if j = i then max x y else d' j, Nat.succ_le_of_lt Hcl.out, by go_num, (hrow1.out _).congr (fun j _ => by show (if j = i then Value.int .i64 _ else Value.int .i64 (d' j)) = Value.int .i64 _; split <;> rename_i h <;> simp [h]), ⟨fun j hj => by show (if j = i then _ else _) = _; rw [if_neg hj]; exact hd'.out.1 j hj, ?_⟩, hb1.out _⟩
              show (if i = i then _ else _) = _
              rw [if_pos rfl, hst.out, Tr.mx_snoc, Int.toNat_natCast, ← hx.out, hd'.out.2, ← hd.out.1 q hqi, ← hy.out, hd'.out.1 q (by omega)]
            case measure => have := Hcl.out; simp [Lib.intOf]; omega
        · have he : Hid (n.kids.take c = n.kids) := List.take_of_length_le (by omega)
          have r1 := hrow.cell (i := i) hlt
          have z1 := hrow.frozen i
          have hrow1 := mkHid (fun v => hrow.set i v)
          have hb1 := mkHid (fun v => hb.setCell (p := ⟨G, i, none⟩) (Nat.le_refl _) v)
          obtain ⟨x, hx⟩ : ∃ x, d' i = x := ⟨_, rfl⟩
          simp only [hx] at r1
          have hxl : x ≤ 1000000 := by
            have h1 : Tr.mx (Tr.depTo (Fn.kids F) i) n.kids ≤ i := (Tr.mx_le _ _ _).2 (fun k _ => Tr.depTo_le (Fn.kids F) i k.toNat)
            rw [← he.out, ← hd'.out.2, hx] at h1
            omega
          replace hx := mkHid hx
          clear hrow hb
          go_wp2
          go_roundw
          case rel =>
            refine ⟨i + 1, fun j => if j = i then x + 1 else d' j, by omega, by go_num, (hrow1.out _).congr (fun j _ => by show (if j = i then Value.int .i64 _ else Value.int .i64 (d' j)) = Value.int .i64 _; split <;> rename_i h <;> simp [h]), ⟨fun j hj => ?_, fun j hj => ?_⟩, hb1.out _⟩
            · show (if j = i then _ else _) = _
              unfold Tr.depTo
              by_cases hji : j = i
              · rw [if_pos hji, if_pos hji, ← hx.out, hd'.out.2, he.out, hkids.out]
              · rw [if_neg hji, if_neg hji, hd'.out.1 j hji, hd.out.1 j (by omega)]
            · show (if j = i then _ else _) = _
              rw [if_neg (by omega), hd'.out.1 j (by omega), hd.out.2 j (by omega)]
          case measure => simp [Lib.intOf]; omega
    · obtain rfl : i = F.length := by omega
      have r1 := hrow.cell (i := F.length - 1) (by omega)
      have hz : Hid (d (F.length - 1) = Tr.depTo (Fn.kids F) F.length (F.length - 1)) := hd.out.1 _ (by omega)
      obtain ⟨m, hm⟩ : ∃ m, F.length = m + 1 := ⟨F.length - 1, by omega⟩
      rw [show F.length - 1 = m by omega] at r1 hz
      have hmI : (F.length : Int) - 1 = (m : Int) := by omega
      have hml : m < F.length := by omega
      have hme : Hid (F.length - 1 = m) := by show _ = _; omega
      replace hm := mkHid hm
      clear hrow hd
      go_wp2
      go_ret
      rw [hme.out, ← hz.out, hG]
      exact ⟨rfl, hb⟩
end Go.Proofs.Ytonnmbkfjiddnaa
