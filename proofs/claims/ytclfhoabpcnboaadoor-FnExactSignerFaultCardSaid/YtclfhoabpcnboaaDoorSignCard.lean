/- FnExactSignerFault: its row, its tied card. -/
import Derived.Test.YtclfhoabpcnboaaDoorRows
import Derived.Test.YtclfhoabpcnboaaDoorSignProof
import Derived.WalkKit
import Derived.ProofKit
import Derived.OpenShut
import Derived.ShutString
import Derived.ChangeOld
import Derived.Below
import Derived.Carry
import Derived.Lib.SmallJoins
import Derived.Handed
import Derived.Lay
import Derived.Test.YtclfhoabpcnboaaDoorTie
import Derived.Test.YtclfhoabpcnboaaDoorCards
import Derived.SevenTiedAt
namespace Go.Proofs.YtclfhoabpcnboaaDoor
open Go.ChangeMaps (open_string shut_string)
open Go Go.ChangeShapes Go.WideShapes Go.ChangeAt Go.WideMaps Go.WideElems Go.RowKit Go.Lib
namespace fnExactSignerFault
theorem ownD : ownKnob Tryd.prog.godebug = none := by kernel_rfl
theorem wp_load_row {P : Program} {w : World} {o : Oper} {a : Act} {K : Act → World → Prop} {Q : Exit → Act → World → Prop} (ty : TypeId) (x : Operand) (ho : o.op = .load ty x)
    (g : Nat) (cs : Array Value) (t : TypeId) (fr : Nat × Nat) (d : TypeDesc) (hx : a.eval x = .pointer (some ⟨g, 0, none⟩)) (hgp : w.heap[g]? = some (.cells cs t fr))
    (hu : P.underlying ty = some d) (hd : (match d with | .struct _ | .array _ _ => true | _ => false) = true) (hi : (P.info? ty).map (·.size) = some cs.size)
    (h : K (a.put o.dst (.agg cs)) w) : Oper.wp P o a w K Q := by
  unfold Oper.wp execOp
  simp only [ho, hx, Instr.loadAt, Instr.sureAddr, Sem.run_bind, Sem.run_pure, Result.andThen_ok, run_loadVar_row w g t ty cs fr d hgp hu hd hi]
  exact h
theorem laidOut : laidOutB Tryd.prog = true := by kernel_rfl
set_option maxHeartbeats 2000000 in
theorem walk (d s : ByteArray) (A B h b m : Int) (o : Option Addr) (F : List ByteArray) (cap : Nat) (w : World) (hd : d.size ≤ maxLen) (hs : s.size ≤ maxLen) (hF : Tx w.heap.size w o F) (hlen : F.length ≤ maxLen) (hsz : ∀ t ∈ F, t.size ≤ maxLen) (hm : w.cell? ⟨0, 0, none⟩ = some (.int .i64 m)) :
    Calls Tryd.prog 3 #[sgV d s A B (.slice o F.length cap) h b] w fun e w' => e = .returned (.bool true) ∧ Below w.heap.size w w' := by
  obtain ⟨W, hW⟩ : ∃ W, W = w.alloc (.cells #[.string d, .string s, .int .i64 A, .int .i64 B, .slice o F.length cap, .int .i64 h, .int .i64 b] 26) := ⟨_, rfl⟩
  have hbA : Below w.heap.size w W := by rw [hW]; exact (Below.refl _ _).alloc (Nat.le_refl _) _
  have hk0 : W.heap[w.heap.size]? = some (.cells #[.string d, .string s, .int .i64 A, .int .i64 B, .slice o F.length cap, .int .i64 h, .int .i64 b] 26 (0, 0)) := by rw [hW]; exact heap_alloc_at _ _
  have hZ := lawSzSigner d s A B h b o F cap W hd hs ((hF.below hbA).mono hbA.size) hlen hsz
  have HF : Hid (Tx w.heap.size w o F) := hF
  have Hm : Hid (w.cell? ⟨0, 0, none⟩ = some (.int .i64 m)) := hm
  clear hF hsz hm
  go_enter Tryd.func3, Tryd.ntmps3
  go_wp2_with fail
  rw [← hW]
  refine hZ.mono ?_
  rintro e w2 ⟨r, rfl, hr, hb2⟩
  have hk2 := (hb2.block _ (heap_lt hk0)).trans hk0
  have hB2 := hbA.trans (hb2.mono hbA.size)
  obtain ⟨c0, c1, c2, c3, c4, c5, c6⟩ := sg_cells hk2
  clear hZ hb2 hk0 hbA hW
  rcases hr with rfl | ⟨hr0, hd2, hs2, hl2, hz2⟩
  · go_wp2
    go_ret
    exact ⟨rfl, hB2⟩
  · have HZ2 : Hid (∀ t ∈ F, t.size ≤ 1048576) := hz2
    have hTo := fun (w : World) (hF : Tx w.heap.size w o F) => lawToSigner d s A B h b o F cap w hF hl2
    have HTo := (show Hid _ from hTo)
    have hSp := fun (g : Nat) (w : World) (hF : Tx w.heap.size w (some ⟨g, 0, none⟩) F) => specSigner d s A B h b (some ⟨g, 0, none⟩) F F.length w hd2 hs2 hF hl2 hz2
    have HSp := (show Hid _ from hSp)
    have hIm := fun (g : Nat) (w : World) (hF : Tx w.heap.size w (some ⟨g, 0, none⟩) F) (hm : w.cell? ⟨0, 0, none⟩ = some (.int .i64 m)) => implSigner d s A B h b m (some ⟨g, 0, none⟩) F F.length w hd2 hs2 hF hl2 hz2 hm
    have HIm := (show Hid _ from hIm)
    have hT2 := HTo.out w2 ((HF.out.below hB2).mono hB2.size)
    clear hTo hSp hIm hz2
    generalize dcode (signerOk d s A B F h b) = R at *
    go_wp2_with fail
    refine hT2.mono ?_
    rintro e w3 ⟨g1, rfl, HT3, hb3⟩
    have hk3 := (hb3.block _ (heap_lt hk2)).trans hk2
    have hB3 := hB2.trans (hb3.mono hB2.size)
    clear c0 c1 c2 c3 c4 c5 c6 hk2 hb3 hB2 hT2
    obtain ⟨c0, c1, c2, c3, c4, c5, c6⟩ := sg_cells hk3
    go_wp2_with fail
    refine (HSp.out g1 w3 HT3.out).mono ?_
    rintro e w4 ⟨rfl, hb4⟩
    have hk4 := (hb4.block _ (heap_lt hk3)).trans hk3
    have hB4 := hB3.trans (hb4.mono hB3.size)
    clear c0 c1 c2 c3 c4 c5 c6 hk3 hb4 hB3 HT3 HSp
    obtain ⟨c0, c1, c2, c3, c4, c5, c6⟩ := sg_cells hk4
    have hT4 := HTo.out w4 ((HF.out.below hB4).mono hB4.size)
    go_wp2_with fail
    refine hT4.mono ?_
    rintro e w5 ⟨g2, rfl, HT5, hb5⟩
    have hk5 := (hb5.block _ (heap_lt hk4)).trans hk4
    have hB5 := hB4.trans (hb5.mono hB4.size)
    clear c0 c1 c2 c3 c4 c5 c6 hk4 hb5 hB4 hT4
    obtain ⟨W6, hW6⟩ : ∃ W6, W6 = w5.alloc (.cells #[.string d, .string s, .int .i64 A, .int .i64 B, .slice (some ⟨g2, 0, none⟩) F.length F.length, .int .i64 h, .int .i64 b] 31) := ⟨_, rfl⟩
    have hb6 : Below w5.heap.size w5 W6 := by rw [hW6]; exact (Below.refl _ _).alloc (Nat.le_refl _) _
    have hx6 : W6.heap[w5.heap.size]? = some (.cells #[.string d, .string s, .int .i64 A, .int .i64 B, .slice (some ⟨g2, 0, none⟩) F.length F.length, .int .i64 h, .int .i64 b] 31 (0, 0)) := by rw [hW6]; exact heap_alloc_at _ _
    have hk6 := (hb6.block _ (heap_lt hk5)).trans hk5
    have hB6 := hB5.trans (hb6.mono hB5.size)
    have HT6 : Hid (Tx W6.heap.size W6 (some ⟨g2, 0, none⟩) F) := (HT5.out.below hb6).mono hb6.size
    have hm6 := (hB6.cell (World.block_lt_of_cell? _ _ Hm.out)).trans Hm.out
    have hI6 := HIm.out g2 W6 HT6.out hm6
    obtain ⟨c0, c1, c2, c3, c4, c5, c6⟩ := sg_cells hk5
    clear hk5 hb6 HT5 HIm hm6
    go_wp2_with fail
    rw [← hW6]
    refine hI6.mono ?_
    rintro e w7 ⟨rfl, hb7⟩
    have hx7 := (hb7.block _ (heap_lt hx6)).trans hx6
    have hk7 := (hb7.block _ (heap_lt hk6)).trans hk6
    have hB7 := hB6.trans (hb7.mono hB6.size)
    have HT7 : Hid (Tx w7.heap.size w7 (some ⟨g2, 0, none⟩) F) := (HT6.out.below hb7).mono hb7.size
    obtain ⟨gx, hgx⟩ : ∃ gx, w5.heap.size = gx := ⟨_, rfl⟩
    rw [hgx] at hx7 ⊢
    clear c0 c1 c2 c3 c4 c5 c6 hk6 hx6 hb7 hB5 hB6 HT6 hI6 hW6 hgx
    obtain ⟨c0, c1, c2, c3, c4, c5, c6⟩ := sg_cells hk7
    obtain ⟨x0, x1, x2, x3, x4, x5, x6⟩ := sg_cells hx7
    have hT7 := HTo.out w7 ((HF.out.below hB7).mono hB7.size)
    go_wp2_with fail
    refine wp_region_any (by kernel_rfl) ?_
    obtain ⟨V, hV⟩ : ∃ V : World, V = { w7 with drawn := w7.drawn + 1 } := ⟨_, rfl⟩
    have hxV : V.heap[gx]? = some (.cells #[.string d, .string s, .int .i64 A, .int .i64 B, .slice (some ⟨g2, 0, none⟩) F.length F.length, .int .i64 h, .int .i64 b] 31 (0, 0)) := by rw [hV]; exact hx7
    have hkV : V.heap[w.heap.size]? = some (.cells #[.string d, .string s, .int .i64 A, .int .i64 B, .slice o F.length cap, .int .i64 h, .int .i64 b] 26 (0, 0)) := by rw [hV]; exact hk7
    have HBV : Hid (Below w.heap.size w V) := by rw [hV]; exact hB7.drew
    have HXV : Hid (Tx V.heap.size V (some ⟨g2, 0, none⟩) F) := by rw [hV]; exact HT7.out
    have HTV : Hid (Tx V.heap.size V o F) := (HF.out.below HBV.out).mono HBV.out.size
    rw [← hV]
    clear hV c0 c1 c2 c3 c4 c5 c6 x0 x1 x2 x3 x4 x5 x6 hx7 hk7 hB7 HT7 hT7 HF
    refine wpAny_ready (rs := [0, 1]) (by kernel_rfl) (by simp) ?_
    refine AllReady.cons rfl (fun K hK => ?_) (AllReady.cons rfl (fun K hK => ?_) AllReady.nil)
    · skip
      split
      case isFalse hnw => exact absurd rfl hnw
      refine wp_load_row 31 _ rfl gx _ 31 (0, 0) _ rfl hxV Tryd.underlying31 rfl (by kernel_rfl) ?_
      refine hK _ _ ?_
      clear hK K
      go_simp
      refine wpAny_ready (rs := [1]) (by kernel_rfl) (by simp) ?_
      refine AllReady.cons rfl (fun K hK => ?_) AllReady.nil
      split
      case isFalse hnw => exact absurd rfl hnw
      refine wp_load_row 26 _ rfl w.heap.size _ 26 (0, 0) _ rfl hkV Tryd.underlying26 rfl (by kernel_rfl) ?_
      refine hK _ _ ?_
      clear hK K
      go_simp
      refine wpAny_ready (rs := [2]) (by kernel_rfl) (by simp) ?_
      refine AllReady.cons rfl (fun K hK => ?_) AllReady.nil
      go_simp
      refine (HTo.out V HTV.out).mono ?_
      rintro e w8 ⟨g3, rfl, HT8, hb8⟩
      go_simp
      refine hK _ _ ?_
      clear hK K
      go_simp
      have HA8 : Hid (Tx w8.heap.size w8 (some ⟨g2, 0, none⟩) F) := (HXV.out.below hb8).mono hb8.size
      have hB8 := HBV.out.trans (hb8.mono HBV.out.size)
      have hx8 := (hb8.block _ (heap_lt hxV)).trans hxV
      clear hb8
      refine wpAny_ready (rs := [3]) (by kernel_rfl) (by simp) ?_
      refine AllReady.cons rfl (fun K hK => ?_) AllReady.nil
      go_simp
      refine (lawEqSigner d s A B h b g2 g3 F F.length F.length w8 HA8.out HT8.out hl2).mono ?_
      rintro e w9 ⟨rfl, hb9⟩
      go_simp
      refine hK _ _ ?_
      clear hK K
      go_simp
      have hB9 := hB8.trans (hb9.mono hB8.size)
      clear hb9 hx8 HA8 HT8 hB8
      refine wpAny_take (i := 4) (v := .bool false) rfl (by kernel_rfl) (by kernel_rfl) (by kernel_rfl) (fun _ _ _ h => h) (Or.inl ⟨by rfl, ?_⟩) ?_
      · intro w
        go_simp
      go_simp
      refine wpAny_done (by kernel_rfl) ?_ _
      go_wp2
      go_ret
      exact ⟨rfl, hB9⟩
    · skip
      split
      case isFalse hnw => exact absurd rfl hnw
      refine wp_load_row 26 _ rfl w.heap.size _ 26 (0, 0) _ rfl hkV Tryd.underlying26 rfl (by kernel_rfl) ?_
      refine hK _ _ ?_
      clear hK K
      go_simp
      refine wpAny_ready (rs := [0, 2]) (by kernel_rfl) (by simp) ?_
      refine AllReady.cons rfl (fun K hK => ?_) (AllReady.cons rfl (fun K hK => ?_) AllReady.nil)
      · skip
        split
        case isFalse hnw => exact absurd rfl hnw
        refine wp_load_row 31 _ rfl gx _ 31 (0, 0) _ rfl hxV Tryd.underlying31 rfl (by kernel_rfl) ?_
        refine hK _ _ ?_
        clear hK K
        go_simp
        refine wpAny_ready (rs := [2]) (by kernel_rfl) (by simp) ?_
        refine AllReady.cons rfl (fun K hK => ?_) AllReady.nil
        go_simp
        refine (HTo.out V HTV.out).mono ?_
        rintro e w8 ⟨g3, rfl, HT8, hb8⟩
        go_simp
        refine hK _ _ ?_
        clear hK K
        go_simp
        have HA8 : Hid (Tx w8.heap.size w8 (some ⟨g2, 0, none⟩) F) := (HXV.out.below hb8).mono hb8.size
        have hB8 := HBV.out.trans (hb8.mono HBV.out.size)
        have hx8 := (hb8.block _ (heap_lt hxV)).trans hxV
        clear hb8
        refine wpAny_ready (rs := [3]) (by kernel_rfl) (by simp) ?_
        refine AllReady.cons rfl (fun K hK => ?_) AllReady.nil
        go_simp
        refine (lawEqSigner d s A B h b g2 g3 F F.length F.length w8 HA8.out HT8.out hl2).mono ?_
        rintro e w9 ⟨rfl, hb9⟩
        go_simp
        refine hK _ _ ?_
        clear hK K
        go_simp
        have hB9 := hB8.trans (hb9.mono hB8.size)
        clear hb9 hx8 HA8 HT8 hB8
        refine wpAny_take (i := 4) (v := .bool false) rfl (by kernel_rfl) (by kernel_rfl) (by kernel_rfl) (fun _ _ _ h => h) (Or.inl ⟨by rfl, ?_⟩) ?_
        · intro w
          go_simp
        go_simp
        refine wpAny_done (by kernel_rfl) ?_ _
        go_wp2
        go_ret
        exact ⟨rfl, hB9⟩
      · skip
        go_simp
        refine (HTo.out V HTV.out).mono ?_
        rintro e w8 ⟨g3, rfl, HT8, hb8⟩
        go_simp
        refine hK _ _ ?_
        clear hK K
        go_simp
        have HA8 : Hid (Tx w8.heap.size w8 (some ⟨g2, 0, none⟩) F) := (HXV.out.below hb8).mono hb8.size
        have hB8 := HBV.out.trans (hb8.mono HBV.out.size)
        have hx8 := (hb8.block _ (heap_lt hxV)).trans hxV
        clear hb8
        refine wpAny_ready (rs := [0]) (by kernel_rfl) (by simp) ?_
        refine AllReady.cons rfl (fun K hK => ?_) AllReady.nil
        split
        case isFalse hnw => exact absurd rfl hnw
        refine wp_load_row 31 _ rfl gx _ 31 (0, 0) _ rfl hx8 Tryd.underlying31 rfl (by kernel_rfl) ?_
        refine hK _ _ ?_
        clear hK K
        go_simp
        refine wpAny_ready (rs := [3]) (by kernel_rfl) (by simp) ?_
        refine AllReady.cons rfl (fun K hK => ?_) AllReady.nil
        go_simp
        refine (lawEqSigner d s A B h b g2 g3 F F.length F.length w8 HA8.out HT8.out hl2).mono ?_
        rintro e w9 ⟨rfl, hb9⟩
        go_simp
        refine hK _ _ ?_
        clear hK K
        go_simp
        have hB9 := hB8.trans (hb9.mono hB8.size)
        clear hb9 hx8 HA8 HT8 hB8
        refine wpAny_take (i := 4) (v := .bool false) rfl (by kernel_rfl) (by kernel_rfl) (by kernel_rfl) (fun _ _ _ h => h) (Or.inl ⟨by rfl, ?_⟩) ?_
        · intro w
          go_simp
        go_simp
        refine wpAny_done (by kernel_rfl) ?_ _
        go_wp2
        go_ret
        exact ⟨rfl, hB9⟩
def laidD : List (String × DataW Unit) := [("unicode/utf8.acceptRanges", Rows.laid_unicode_utf8_acceptRanges), ("unicode/utf8.first", Rows.laid_unicode_utf8_first)]
set_option maxRecDepth 100000 in
theorem lifted (os : Os) (started : os.Started) (H : Type) (enc : TypeId × Value → H) :
    ReturnsInHanded {} Tryd.checked os 3 .any (fun w args => (Rows.fnExactSignerFaultSpec.pre enc Tryd.prog Tryd.f3 [] false w args ∧ laidMetH Tryd.prog laidD w) ∧ sizedMet enc Tryd.prog Tryd.f3 (OpenSpec.ofChange Rows.fnExactSignerFaultSpec) false w args)
      (Rows.fnExactSignerFaultSpec.post enc Tryd.prog Tryd.f3 false true false false) := by
  refine returnsInHanded_of_calls (C := Tryd.checked) ownD started (by kernel_rfl)
    (ChangeSpec.witness_shaped (enc := enc) (C := Tryd.checked) (os := os) (X := fun w _ => laidMetH Tryd.prog laidD w) false (World.laidAll Tryd.prog os laidD) #[.agg #[.string ByteArray.empty, .string ByteArray.empty, .int .i64 0, .int .i64 0, .slice none 0 0, .int .i64 0, .int .i64 0]] 8 (World.laidAll_os _ _ _)
      (World.shaped_of_ZipB (by kernel_rfl) (by kernel_rfl)) (by kernel_rfl) (by kernel_rfl) (by kernel_rfl)
      (by rw [MakeChecks.laidMetH_plain _ _ _ (by kernel_rfl)]; exact laidMet_laidAll _ (by kernel_rfl) (by kernel_rfl))) ?_
  intro w tape inp _ hsh _ hok hpre _
  obtain ⟨_, _, _, fn', hfn', _, _, _, _, hval0⟩ := hok
  obtain rfl : fn' = Tryd.f3 := Option.some.inj (hfn'.symm.trans Tryd.func3)
  obtain ⟨⟨⟨ds, gs, before, hw, -⟩, -⟩, -⟩ := hpre
  have hW := DataW.Whole.of_heap (w' := w.forCall tape inp) (by rfl) hw
  obtain ⟨m, hm⟩ := Tryd.laysM146.s1_3 _ hsh
  generalize w.forCall tape inp = W at hsh hval0 hW hm ⊢
  generalize inp.args = args at hval0 hW ⊢
  have hval : ∀ (j : Nat) t v, Tryd.f3.params[j]? = some t → args[j]? = some v → Value.okWide Tryd.prog W .any w.heap.size t v := hval0
  have hW' := hW
  obtain ⟨p, q, hA0, hV, rfl, hfz, hnd⟩ := hW
  have hA : DataW.TrodAll enc Tryd.prog W 0 (fun _ => true) true Tryd.f3.params.toList args.toList ds p := hA0
  rw [Tryd.params3] at hA hval
  obtain ⟨v0, d0, rfl, rfl, h0⟩ := trodAll_one hA
  obtain ⟨rfl, rfl⟩ := trodVars_none hV
  have hlt0 : ∀ x ∈ p, x.block < W.heap.size := by obtain ⟨fuel, hx⟩ := h0; exact DataW.trod_lt fuel _ _ _ hx
  obtain ⟨cs, rfl, hcs⟩ := okWide_struct Tryd.underlying26 (hval 0 26 v0 rfl rfl)
  obtain ⟨c0, c1, c2, c3, c4, c5, c6, rfl⟩ := array7 (hcs.trans (show Tryd.prog.cellsOf 26 = 7 by kernel_rfl))
  have h00 := h0
  obtain ⟨fuel, hf⟩ := h00
  obtain ⟨y0, y1, y2, y3, n, -, -, t0, t1, t2, t3⟩ := Go.Joins.trod_struct4 Tryd.underlying26 hf
  have k0 : Tryd.prog.cellsOf 23 = 4 := by kernel_rfl
  have k1 : Tryd.prog.cellsOf 24 = 1 := by kernel_rfl
  have k2 : Tryd.prog.cellsOf 2 = 1 := by kernel_rfl
  have k9 : Tryd.prog.cellsOf 9 = 1 := by kernel_rfl
  simp only [Value.cells, k0, k1, k2, List.drop_zero, List.drop_succ_cons, List.take_succ_cons, List.take_zero] at t0 t1 t2 t3
  obtain ⟨z0, z1, z2, z3, n2, -, -, u0, u1, u2, u3⟩ := Go.Joins.trod_struct4 Tryd.underlying23 t0
  simp only [k2, k9, List.drop_zero, List.drop_succ_cons, List.take_succ_cons, List.take_zero] at u0 u1 u2 u3
  obtain ⟨d, e0, -, wd⟩ := DataW.trod_string Tryd.underlying9 u0
  obtain ⟨s, e1, -, ws⟩ := DataW.trod_string Tryd.underlying9 u1
  obtain ⟨A, e2, -, -⟩ := DataW.trod_int Tryd.underlying2 u2
  obtain ⟨B, e3, -, -⟩ := DataW.trod_int Tryd.underlying2 u3
  obtain ⟨hh, e5, -, -⟩ := DataW.trod_int Tryd.underlying2 t2
  obtain ⟨hb, e6, -, -⟩ := DataW.trod_int Tryd.underlying2 t3
  obtain ⟨o, F, cap, rfl, hTx, hlen, hsz⟩ := open_texts (e := 9) Tryd.underlying24 Tryd.underlying9 k9 t1
  simp only [List.cons.injEq, and_true] at e0 e1 e2 e3 e5 e6
  subst e0 e1 e2 e3 e5 e6
  clear hA0 hval0
  simp only [List.append_nil] at hW'
  refine (walk d s A B hh hb m o F cap W wd ws hTx hlen hsz hm).mono fun e W' ⟨he, bel⟩ => ?_
  subst he
  exact ChangeSpec.post_blind ⟨_, _, _, [], _, [], hW', trodAll_mk1 (shut_bool Tryd.underlying4 _), (trodAll_mk1 (Below.trod laidOut (by kernel_rfl) (of_decide_eq_true (by kernel_rfl)) h0 bel hlt0)), rfl, bel.frame _, fun h => by cases h⟩

theorem row : Rows.FnExactSignerFaultSaid :=
  OpenClaim.holds_of_wide 3 Tryd.f3 rfl rfl rfl rfl rfl rfl rfl ⟨rfl, rfl, rfl, rfl, rfl⟩ rfl rfl rfl rfl rfl (by kernel_rfl) Tryd.func3 (by kernel_rfl)
    (of_decide_eq_true (by kernel_rfl)) (by unfold Func.isWrapper; first | (rw [if_pos (by decide +kernel)]; kernel_rfl) | (rw [if_neg (by decide +kernel)]; exact ⟨rfl, rfl⟩))
    (fun os started H enc _ => lifted os started H enc)
theorem holds : Rows.FnExactSignerFaultCardSaid :=
  Claim7.holds_tied_plain_at .later [] [.data, .pinned] true (true, "58c7305f4a30f0d825fefc3adc70fd41bca24cf2d5c2c0e42b9bdde882782609") false
    row (fun _ h => by cases h) (by kernel_rfl) (fun _ h => by cases h) fnExactSignerFault_row_tie rfl ⟨rfl, rfl⟩ (by kernel_rfl) rfl
    (fun f fn hf hfn => by
      obtain rfl : f = 3 := Option.some.inj ((show Tryd.prog.funcNamed "loop.example/g00013/laws.FnExactSignerFault" = some 3 by kernel_rfl).symm.trans hf) |>.symm
      obtain rfl : fn = Tryd.f3 := (Option.some.inj (Tryd.func3.symm.trans hfn)).symm
      exact ⟨by kernel_rfl, fun j t ht => by
        rw [Tryd.params3] at ht
        have hm : t ∈ [26] := by simpa using Array.mem_of_getElem? ht
        have hall : ([26].all fun u => !Tryd.prog.wantsStandIn u) = true := by kernel_rfl
        exact (show Tryd.prog.wantsStandIn t = false by simpa using List.all_eq_true.1 hall t hm)⟩)
    (by kernel_rfl)
end fnExactSignerFault
theorem signerFault_holds : Rows.FnExactSignerFaultCardSaid := fnExactSignerFault.holds
#print axioms signerFault_holds
end Go.Proofs.YtclfhoabpcnboaaDoor
