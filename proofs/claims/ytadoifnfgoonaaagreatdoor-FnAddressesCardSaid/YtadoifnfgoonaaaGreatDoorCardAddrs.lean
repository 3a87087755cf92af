
/- The walk of the law on addresses. -/

/- Bytes as an argument of a law. -/

/- FnAddresses: its row, its tied card. -/
import Derived.Test.YtadoifnfgoonaaaGreatDoorAdBoxK
import Derived.Test.YtadoifnfgoonaaaGreatDoorWildPlain
import Derived.Test.YtadoifnfgoonaaaGreatDoorAdDraw2
import Derived.Test.YtadoifnfgoonaaaGreatDoorPhraseTests
import Derived.ProofKit
import Derived.OpenShut
import Derived.ShutString
import Derived.ChangeOld
import Derived.ChangeSlices
import Derived.Below
import Derived.Carry
import Derived.Test.YtadoifnfgoonaaaGreatDoorRows
import Derived.WalkKit
import Derived.Handed
import Derived.Lay
import Derived.Test.YtadoifnfgoonaaaGreatDoorTie
import Derived.Test.YtadoifnfgoonaaaGreatDoorCards
import Derived.SevenTiedAt
import Derived.LaidLaws
import Derived.LaidSub
import Derived.LaidMore
import Derived.Stop.Joined
namespace Go.Proofs.YtadoifnfgoonaaaGreatDoor
open Go.RowKit Go.Lib
set_option maxRecDepth 20000 in
theorem EnsAt.mono {B B' : Nat} {oo : Option Addr} {E : List En} {w : World} (h : EnsAt B oo E w) (hB : B ≤ B') : EnsAt B' oo E w := fun j hj => by
  obtain ⟨gL, vo, vc, h1, h2, h3, h4, h5⟩ := h j hj
  exact ⟨gL, vo, vc, by omega, h2, h3, h4.mono hB, h5⟩
set_option maxRecDepth 20000 in
theorem tri_row {w : World} {b : Nat} {x y z : Value} {t : TypeId} {f : Nat × Nat} (h : w.heap[b]? = some (.cells #[x, y, z] t f)) : w.cell? ⟨b, 0, none⟩ = some x ∧ w.cell? ⟨b, 1, none⟩ = some y ∧ w.cell? ⟨b, 2, none⟩ = some z := by
  refine ⟨?_, ?_, ?_⟩ <;> simp [World.cell?, h]
set_option maxRecDepth 20000 in
/-- A box alone, written, has few bytes. -/
theorem box_alone (b : Bx3) (h : addrOk b.n b.l b.d = true) : boxT b.n b.l b.d = ⟨(esT [⟨false, ⟨#[]⟩, b.n, b.l, b.d, []⟩]).toArray⟩ ∧ ([⟨false, ⟨#[]⟩, b.n, b.l, b.d, []⟩] : List En).all enOk = true ∧ (boxT b.n b.l b.d).size ≤ 4000 := by
  refine ⟨?_, ?_, ?_⟩
  · simp [esT, etT, enT]
  · rw [List.all_cons, List.all_nil, Bool.and_true]
    show (addrOk b.n b.l b.d && (true && true)) = true
    rw [h]
    rfl
  · have h1 := addrOk_sizes b.n b.l b.d h
    have h2 := boxT_len b.n b.l b.d
    omega
set_option maxRecDepth 20000 in
set_option maxHeartbeats 16000000 in
theorem walkAddrs (o : Option Addr) (c : List UInt8) (cp : Nat) (w : World) (hc : Code w.heap.size w o c) (hl : c.length ≤ maxLen) (m : Int) (hm : w.cell? ⟨1, 0, none⟩ = some (.int .i64 m)) :
    Calls Tryz.prog 3 #[.slice o c.length cp] w fun e w' => e = .returned (.bool true) ∧ Below w.heap.size w w' := by
  unfold maxLen at hl
  by_cases hbig : 1048576 < c.length
  · clear hc hm
    go_enter Tryz.func3, Tryz.ntmps3
    go_wp2
    go_ret
    exact ⟨rfl, Below.refl _ _⟩
  have hml : 1 < w.heap.size := World.block_lt_of_cell? _ _ hm
  have HM : Hid (∀ V, Below w.heap.size w V → V.cell? ⟨1, 0, none⟩ = some (.int .i64 m)) := mkHid (fun V h => (h.cell (p := ⟨1, 0, none⟩) hml).trans hm)
  have hD := mkHid (drawWriteAddrs o c cp w hc (by omega))
  clear hc hm hml
  go_enter Tryz.func3, Tryz.ntmps3
  go_wp2_with fail
  refine hD.out.mono ?_
  rintro e w1 ⟨v, D, rfl, hDr, hEns, hb1⟩
  obtain ⟨oo, cc, rfl⟩ := hEns.shape
  obtain ⟨E, hE⟩ : ∃ E, E = D.map (·.1) := ⟨_, rfl⟩
  have hlen : D.length = E.length := by rw [hE, List.length_map]
  have hEA := hEns.ensAt
  rw [← hE] at hEA hDr
  obtain ⟨X, hX⟩ : ∃ X : ByteArray, X = if E.all enOk = true then ⟨(esT E).toArray⟩ else ⟨#[]⟩ := ⟨_, rfl⟩
  have h8 := hDr.length
  have cI := mkHid (implWriteList oo cc E w1 hEA hDr.sm (by omega) (by have := hDr.cnt; omega) (by have := hDr.size; omega) m (HM.out w1 hb1) X hX)
  have cS := mkHid (fun V (hV : Below w1.heap.size w1 V) => specWriteList oo D cc w.heap.size V (hEns.below hV) (by omega) (fun e he => hDr.sml e.1 (by rw [hE]; exact List.mem_map_of_mem he)) E hE X hX)
  rw [hlen] at cS ⊢
  have Hb1 := mkHid hb1
  have HEA := mkHid hEA
  have HDr := mkHid hDr
  have HX := mkHid hX
  clear hD hEns hE hEA hb1 hlen hDr hX
  go_wp2_with fail
  refine cI.out.mono ?_
  rintro e w2 ⟨rfl, hb2⟩
  have Hb2 := mkHid hb2
  clear cI hb2
  go_wp2_with fail
  refine (cS.out w2 Hb2.out).mono ?_
  rintro e w3 ⟨rfl, hb3⟩
  have Hb3 := mkHid (Hb2.out.trans (hb3.mono Hb2.out.size))
  clear cS hb3 Hb2
  have x1 : (X.toList != X.toList) = false := by simp
  cases hXe : X.toList.isEmpty with
  | true =>
    have x2 : X.toList = [] := List.isEmpty_iff.1 hXe
    have x3 : (X.toList == []) = true := by rw [x2]; rfl
    go_wp2
    go_ret
    exact ⟨rfl, Hb1.out.trans (Hb3.out.mono Hb1.out.size)⟩
  | false =>
    have hall : E.all enOk = true := by
      have := HX.out
      by_cases h : E.all enOk = true
      · exact h
      · rw [if_neg h] at this
        rw [this, ByteArray.toList_eq] at hXe
        cases hXe
    have hXv : X = ⟨(esT E).toArray⟩ := by have := HX.out; rwa [if_pos hall] at this
    have hne : E ≠ [] := fun e => by
      rw [hXv, e, ByteArray.toList_eq] at hXe
      cases hXe
    have hb13 := Hb1.out.trans (Hb3.out.mono Hb1.out.size)
    have cR := mkHid (implReadBack E X w3 hall hne hXv (by rw [hXv]; exact (show (esT E).toArray.size ≤ 4000 by have := HDr.out.size; simpa using this)) HDr.out.cnt (by omega) m (HM.out w3 hb13))
    have x3 : (X.toList == []) = false := by cases h : X.toList with | nil => rw [h] at hXe; cases hXe | cons a r => rfl
    have Hok := mkHid (bxsOf_ok hall)
    clear hXe hXv hne hall HX
    go_wp2_with fail
    refine cR.out.mono ?_
    rintro e w4 ⟨v2, D2, rfl, hD2, hE2, hb4⟩
    obtain ⟨o2, c2, rfl⟩ := hE2.shape
    have hl2 : D2.length = E.length := by rw [← hD2, List.length_map]
    have hA2 := hE2.ensAt
    rw [hD2] at hA2
    rw [hl2]
    obtain ⟨W5, hW5⟩ : ∃ W5, W5 = w4.alloc (.cells #[.int .i64 0, .int .i64 0, .slice o2 E.length c2] 27) := ⟨_, rfl⟩
    have hN5 : W5.heap[w4.heap.size]? = some (.cells #[.int .i64 0, .int .i64 0, .slice o2 E.length c2] 27 (0, 0)) := by rw [hW5]; exact hp_alloc _ _
    have hB5 : Below w4.heap.size w4 W5 := by rw [hW5]; exact (Below.refl _ _).alloc (Nat.le_refl _) _
    obtain ⟨y0, y1, y2⟩ := tri_row hN5
    have z14 : w1.heap.size ≤ w4.heap.size := Nat.le_trans Hb3.out.size hb4.size
    have hb15 : Below w1.heap.size w1 W5 := (Hb3.out.trans (hb4.mono Hb3.out.size)).trans (hB5.mono z14)
    have z15 := hb15.size
    have cE := mkHid (lwEntriesSame w4.heap.size o2 oo c2 cc E W5 (hA2.keep hB5) ((HEA.out.keep hb15).mono z14) hB5.size (by omega) (fun e he => by have := (HDr.out.sm e he).2.2.1; omega))
    rw [hW5] at y0 y1 y2
    have HW5 := mkHid hW5
    have Hb15 := mkHid hb15
    clear hW5 hN5 hb15 hB5 hA2 hE2 hb4 cR hD2 hl2
    go_wp2_with fail
    rw [← HW5.out]
    refine cE.out.mono ?_
    rintro e w6 ⟨rfl, hb6⟩
    have Hb16 := mkHid (Hb15.out.trans (hb6.mono z15))
    have z16 : w1.heap.size ≤ w6.heap.size := Hb16.out.size
    have cB := mkHid (specBoxes oo cc E w6 ((HEA.out.keep Hb16.out).mono z16) (by omega) (fun e he => by have := (HDr.out.sm e he).2.2.1; omega) HDr.out.cnt)
    clear cE hb6 y0 y1 y2 HW5 Hb15 z15 hb13
    go_wp2_with fail
    refine cB.out.mono ?_
    rintro e w7 ⟨v7, rfl, hO7, hb7⟩
    obtain ⟨o7, c7, rfl⟩ := hO7.shape
    have HO7 := mkHid hO7
    have Hb17 := mkHid (Hb16.out.trans (hb7.mono z16))
    have z17 : w1.heap.size ≤ w7.heap.size := Hb17.out.size
    have cJ := mkHid (implBoxes oo cc E w7 ((HEA.out.keep Hb17.out).mono z17) (by omega) HDr.out.sm HDr.out.cnt)
    clear cB hO7 hb7 Hb16
    go_wp2_with fail
    refine cJ.out.mono ?_
    rintro e w8 ⟨v8, rfl, hO8, hb8⟩
    obtain ⟨o8, c8, rfl⟩ := hO8.shape
    have HM7 := mkHid (HO7.out.below hb8).memAt
    have hlB : (bxsOf E).length ≤ 499 := by rw [bxsOf_len]; exact HDr.out.cnt
    have cL := mkHid (lwBoxesSame w8.heap.size o8 o7 c8 c7 (bxsOf E) w8 hO8.memAt HM7.out (Nat.le_refl _) (by omega))
    have Hb18 := mkHid (Hb17.out.trans (hb8.mono z17))
    have Hsz : Hid (∀ b ∈ bxsOf E, b.n.size ≤ 1000 ∧ b.l.size ≤ 1000 ∧ b.d.size ≤ 1000) := mkHid (fun b hb => by have := addrOk_sizes b.n b.l b.d (Hok.out b hb); omega)
    clear cJ hO8 hb8 HO7 Hb17 z17 HEA HDr Hb3 z14 z16
    go_wp2_with fail
    refine cL.out.mono ?_
    rintro e w9 ⟨rfl, hb9⟩
    have Hb08 := mkHid (Hb1.out.trans (Hb18.out.mono Hb1.out.size))
    have Hb89 := mkHid hb9
    have z08 : w.heap.size ≤ w8.heap.size := Hb08.out.size
    clear cL hb9 Hb18 Hb1
    generalize bxsOf E = M at *
    go_wp2
    go_loopw [7] (fun iv wr => ∃ i : Nat, iv = .int .i64 i ∧ i ≤ M.length ∧ Hid (Below w8.heap.size w8 wr)) (fun iv _ => M.length - (Lib.intOf iv).toNat)
    case atStart => exact ⟨0, rfl, Nat.zero_le _, Hb89⟩
    case round =>
      clear Hb89
      obtain ⟨i, rfl, hi, Hb⟩ := hrel
      by_cases hlt : i < M.length
      · have HbW := mkHid (Hb08.out.trans (Hb.out.mono z08))
        obtain ⟨gB, hgB, rfl, d0, d1, d2⟩ := (HM7.out.keep Hb.out) i hlt
        have hok := Hok.out M[i] (List.getElem_mem hlt)
        obtain ⟨s1, s2, s3⟩ := Hsz.out M[i] (List.getElem_mem hlt)
        generalize M[i] = q at d0 d1 d2 hok s1 s2 s3
        obtain ⟨n, l, d⟩ := q
        have s1 : n.size ≤ 1000 := s1
        have s2 : l.size ≤ 1000 := s2
        have s3 : d.size ≤ 1000 := s3
        obtain ⟨q1, q2, q3⟩ := box_alone ⟨n, l, d⟩ hok
        have cW := mkHid (implBox n l d m wr (by omega) (by omega) (by omega) (HM.out wr HbW.out))
        unfold box3 at cW
        have zr : w8.heap.size ≤ wr.heap.size := Hb.out.size
        go_wp2_with fail
        refine cW.out.mono ?_
        rintro e wa ⟨rfl, hba⟩
        have cR2 := mkHid (implReadBack [⟨false, ⟨#[]⟩, n, l, d, []⟩] (boxT n l d) wa q2 (by simp) q1 q3 (by simp [cntS, En.cnt]) (by simp) m (HM.out wa (HbW.out.trans (hba.mono HbW.out.size))))
        have Hba := mkHid hba
        clear cW hba q1 q2 q3
        go_wp2_with fail
        refine cR2.out.mono ?_
        rintro e wb ⟨v3, D3, rfl, hD3, hE3, hbb⟩
        obtain ⟨o3, c3, rfl⟩ := hE3.shape
        have hl3 : D3.length = 1 := by have := congrArg List.length hD3; simpa using this
        have hA3 := hE3.ensAt
        rw [hD3] at hA3
        obtain ⟨gL, vo3, vc3, hgL, rfl, ⟨-, -, e2, e3, e4, -⟩, -, -⟩ := hA3 0 (by simp)
        have e2 : wb.cell? ⟨gL, 2, none⟩ = some (.string n) := e2
        have e3 : wb.cell? ⟨gL, 3, none⟩ = some (.string l) := e3
        have e4 : wb.cell? ⟨gL, 4, none⟩ = some (.string d) := e4
        rw [hl3]
        have Hbb := mkHid (Hba.out.trans (hbb.mono Hba.out.size))
        have zb : wr.heap.size ≤ wb.heap.size := Hbb.out.size
        clear hE3 hA3 hD3 hl3 hbb cR2 Hba
        obtain ⟨Wc, hWc⟩ : ∃ Wc, Wc = wb.alloc (.cells #[.int .i64 0, .int .i64 0, .slice (some ⟨gL, 0, none⟩) 1 c3] 27) := ⟨_, rfl⟩
        have hNc : Wc.heap[wb.heap.size]? = some (.cells #[.int .i64 0, .int .i64 0, .slice (some ⟨gL, 0, none⟩) 1 c3] 27 (0, 0)) := by rw [hWc]; exact hp_alloc _ _
        have hBc : Below wb.heap.size wb Wc := by rw [hWc]; exact (Below.refl _ _).alloc (Nat.le_refl _) _
        obtain ⟨y0, y1, y2⟩ := tri_row hNc
        have Hbc := mkHid (Hbb.out.trans (hBc.mono zb))
        have zc : wr.heap.size ≤ Wc.heap.size := Hbc.out.size
        have kB : ∀ q, Wc.cell? ⟨gB, q, none⟩ = wr.cell? ⟨gB, q, none⟩ := fun q => Hbc.out.cell (p := ⟨gB, q, none⟩) (show gB < _ by omega)
        have kL : ∀ q, Wc.cell? ⟨gL, q, none⟩ = wb.cell? ⟨gL, q, none⟩ := fun q => hBc.cell (p := ⟨gL, q, none⟩) hgL
        have g0 := mkHid ((kB _).trans d0)
        have g1 := mkHid ((kB _).trans d1)
        have g2 := mkHid ((kB _).trans d2)
        have j0 := cell_regrown ((kB _).trans d0)
        have j1 := cell_regrown ((kB _).trans d1)
        have j2 := cell_regrown ((kB _).trans d2)
        have k0 := cell_regrown y0
        have k1 := cell_regrown y1
        have k2 := cell_regrown y2
        have l2 := cell_regrown ((kL _).trans e2)
        have l3 := cell_regrown ((kL _).trans e3)
        have l4 := cell_regrown ((kL _).trans e4)
        have HWc := mkHid hWc
        clear kB kL y0 y1 y2 hWc hNc hBc d0 d1 d2 e2 e3 e4 Hbb zb
        have i1 : (i : Int) < (M.length : Int) := by omega
        go_wp2
        rw [← HWc.out]
        refine wp_region_quiet_below (by kernel_rfl) (by kernel_rfl) ?_
        repeat (quiet_step (fail))
        refine wpQuiet_nil ?_
        intro _ hw'
        obtain ⟨⟨dq, osq⟩, hw''⟩ := hw'
        subst hw''
        have hbq := below_regrown Wc dq osq
        generalize Go.Sort.grow (redrawn Wc dq) osq = Wq at *
        clear j0 j1 j2 k0 k1 k2 l2 l3 l4 HWc
        have kq : ∀ q, Wq.cell? ⟨gB, q, none⟩ = Wc.cell? ⟨gB, q, none⟩ := fun q => hbq.cell (p := ⟨gB, q, none⟩) (show gB < _ by omega)
        have d0 := (kq _).trans g0.out
        have d1 := (kq _).trans g1.out
        have d2 := (kq _).trans g2.out
        have Hbq := mkHid (Hb.out.trans ((Hbc.out.trans (hbq.mono zc)).mono zr))
        have zq : wr.heap.size ≤ Wq.heap.size := Nat.le_trans zc hbq.size
        clear kq g0 g1 g2 Hbc hbq
        obtain ⟨cap, We, hcv, hh, hbe⟩ := bytesOf (P := Tryz.prog) 9 22 Tryz.underlying9 Tryz.underlying22 Tryz.underlying5 d (Wq.alloc (.cells #[.string n, .string l, .string d] 35))
        have hNd : (Wq.alloc (.cells #[.string n, .string l, .string d] 35)).heap[Wq.heap.size]? = some (.cells #[.string n, .string l, .string d] 35 (0, 0)) := hp_alloc _ _
        have hsd : (Wq.alloc (.cells #[.string n, .string l, .string d] 35)).heap.size = Wq.heap.size + 1 := World.size_alloc _ _
        have Hqe : Hid (Below Wq.heap.size Wq We) := mkHid (((Below.refl Wq.heap.size Wq).alloc (Nat.le_refl _) _).trans (hbe.mono (by omega)))
        have HUe : Hid (We.heap[Wq.heap.size]? = some (.cells #[.string n, .string l, .string d] 35 (0, 0))) := mkHid ((hbe.block Wq.heap.size (by omega)).trans hNd)
        have zde : Wq.heap.size + 1 ≤ We.heap.size := by have := hbe.size; omega
        rw [hsd] at hh
        have Hh := mkHid hh
        clear hbe hNd hh
        go_wp2
        clear hcv
        have D0 := mkHid d0
        have D1 := mkHid d1
        have D2 := mkHid d2
        clear d0 d1 d2
        go_loopw [11] (fun iv wq => ∃ k : Nat, k ≤ d.size ∧ iv = .int .i64 k ∧ Hid (HoldsB (Wq.heap.size + 1) (capTo d.data.toList k) wq) ∧ Hid (Below (Wq.heap.size + 1) We wq)) (fun iv _ => d.size - (Lib.intOf iv).toNat)
        case atStart => exact ⟨0, Nat.zero_le _, rfl, mkHid (by rw [capTo_zero]; exact Hh.out), mkHid (Below.refl _ _)⟩
        case round =>
          obtain ⟨k, hk, rfl, hold, hb⟩ := hrel
          have hll : d.data.toList.length = d.size := by simp
          by_cases hkl : k < d.size
          · obtain ⟨hc, hf⟩ := hold.out k (by rw [capTo_len]; omega)
            rw [capTo_get _ _ (by omega)] at hc
            have hset := capTo_set d.data.toList k (by omega)
            have hsame := capTo_same d.data.toList k (by omega)
            have hst := fun c => hold.out.set k (by rw [capTo_len]; omega) c
            generalize d.data.toList[k] = x at hc hset hsame
            have h8x : x.toNat < 256 := UInt8.toNat_lt _
            by_cases hc1 : 97 ≤ x.toNat ∧ x.toNat ≤ 122
            · have hv := big_yes x hc1
              have hst' := mkHid (hst (big x))
              rw [hset, hv] at hst'
              obtain ⟨h97, h122⟩ := hc1
              clear hset hsame hst hold hv hll
              have hb'' := mkHid (hb.out.setCell (p := ⟨Wq.heap.size + 1, k, none⟩) (Nat.le_refl _) (.int .u8 ((x.toNat : Int) - 32)))
              go_wp2
              go_roundw
              case rel => exact ⟨k + 1, by omega, by go_num, hst', hb''⟩
              case measure => simp [Lib.intOf]; omega
            · have hv := mkHid (hsame (big_no x hc1))
              clear hset hsame hst hll
              by_cases h97 : 97 ≤ x.toNat
              · have h122 : 122 < x.toNat := by omega
                clear hc1
                go_wp2
                go_roundw
                case rel => exact ⟨k + 1, by omega, by go_num, mkHid (by rw [← hv.out]; exact hold.out), hb⟩
                case measure => simp [Lib.intOf]; omega
              · clear hc1
                go_wp2
                go_roundw
                case rel => exact ⟨k + 1, by omega, by go_num, mkHid (by rw [← hv.out]; exact hold.out), hb⟩
                case measure => simp [Lib.intOf]; omega
          · have hold' := hold.out
            rw [capTo_all _ _ (by omega)] at hold'
            have hlen : (caps d.data.toList).length = d.size := by simp [caps]
            have hbk := hold'.back (P := Tryz.prog) (cap := cap) 22 9 Tryz.underlying22 Tryz.underlying5 Tryz.underlying9
            rw [hlen] at hbk
            obtain ⟨V, hV⟩ : ∃ V, V = wr := ⟨_, rfl⟩
            rw [← hV] at hbk hb ⊢
            clear hlen hll hold hold' hV
            have hUV : V.heap[Wq.heap.size]? = some (.cells #[.string n, .string l, .string d] 35 (0, 0)) := (hb.out.block Wq.heap.size (by omega)).trans HUe.out
            obtain ⟨u0, u1, u2'⟩ := tri_row hUV
            have uf : V.frozen? ⟨Wq.heap.size, 2, none⟩ = false := by simp [World.frozen?, hUV]
            obtain ⟨T, hT⟩ : ∃ T : ByteArray, T = ⟨(caps d.data.toList).toArray⟩ := ⟨_, rfl⟩
            have hTs : T.size ≤ 1000 := by rw [hT]; exact (show (caps d.data.toList).toArray.size ≤ 1000 by simp [caps]; exact s3)
            have hkey : keyT n l T = keyT n l d := by rw [hT]; exact key_caps n l d
            rw [← hT] at hbk
            clear hT
            obtain ⟨Wf, hWf⟩ : ∃ Wf, Wf = V.setCell ⟨Wq.heap.size, 2, none⟩ (.string T) := ⟨_, rfl⟩
            have f0 : Wf.cell? ⟨Wq.heap.size, 0, none⟩ = some (.string n) := by rw [hWf, World.cell?_setCell_other V ⟨Wq.heap.size, 2, none⟩ ⟨Wq.heap.size, 0, none⟩ _ (by simp)]; exact u0
            have f1 : Wf.cell? ⟨Wq.heap.size, 1, none⟩ = some (.string l) := by rw [hWf, World.cell?_setCell_other V ⟨Wq.heap.size, 2, none⟩ ⟨Wq.heap.size, 1, none⟩ _ (by simp)]; exact u1
            have f2 : Wf.cell? ⟨Wq.heap.size, 2, none⟩ = some (.string T) := by rw [hWf]; exact World.cell?_setCell_same V _ _ u2'
            have bqf : Below Wq.heap.size Wq Wf := by rw [hWf]; exact (Hqe.out.trans (hb.out.mono (by omega))).setCell (p := ⟨Wq.heap.size, 2, none⟩) (Nat.le_refl _) _
            have kq : ∀ q, Wf.cell? ⟨gB, q, none⟩ = Wq.cell? ⟨gB, q, none⟩ := fun q => bqf.cell (p := ⟨gB, q, none⟩) (show gB < _ by omega)
            have j0 := cell_regrown ((kq _).trans D0.out)
            have j1 := cell_regrown ((kq _).trans D1.out)
            have j2 := cell_regrown ((kq _).trans D2.out)
            have k0 := cell_regrown f0
            have k1 := cell_regrown f1
            have k2 := cell_regrown f2
            have b8f := mkHid (Hbq.out.trans (bqf.mono (Nat.le_trans zr zq)))
            have b0f := mkHid (Hb08.out.trans (b8f.out.mono z08))
            have HMf : Hid (∀ dd os, (Go.Sort.grow (redrawn Wf dd) os).cell? ⟨1, 0, none⟩ = some (.int .i64 m)) := mkHid (fun dd os => HM.out _ (b0f.out.trans ((below_regrown Wf dd os).mono b0f.out.size)))
            have cA : Hid (∀ dd os, Calls Tryz.prog 13 #[.agg #[.string n, .string l, .string T]] (Go.Sort.grow (redrawn Wf dd) os) fun e w'' => e = .returned (.string (keyT n l T)) ∧ ∃ p : Regrown, w'' = Go.Sort.grow (redrawn Wf p.d) p.os) := mkHid (fun dd os => Calls.regrown_of (implKey n l T m _ (by omega) (by omega) (by omega) (HMf.out dd os)))
            have cB : Hid (∀ dd os, Calls Tryz.prog 13 #[.agg #[.string n, .string l, .string d]] (Go.Sort.grow (redrawn Wf dd) os) fun e w'' => e = .returned (.string (keyT n l d)) ∧ ∃ p : Regrown, w'' = Go.Sort.grow (redrawn Wf p.d) p.os) := mkHid (fun dd os => Calls.regrown_of (implKey n l d m _ (by omega) (by omega) (by omega) (HMf.out dd os)))
            have cC : Hid (∀ dd os, Calls Tryz.prog 14 #[.agg #[.string n, .string l, .string d]] (Go.Sort.grow (redrawn Wf dd) os) fun e w'' => e = .returned (.string (keyT n l d)) ∧ ∃ p : Regrown, w'' = Go.Sort.grow (redrawn Wf p.d) p.os) := mkHid (fun dd os => Calls.regrown_of (specKey n l d _ (by omega) (by omega) (by omega)))
            rw [hkey] at cA
            generalize keyT n l d = Y at cA cB cC
            have yy : (Y.toList == Y.toList) = true := by simp
            have HWf := mkHid hWf
            clear hWf kq f0 f1 f2 bqf HMf hkey HUe hb Hqe D0 D1 D2
            have i1 : (i : Int) < (M.length : Int) := by omega
            go_wp2
            rw [← HWf.out]
            refine wp_region_quiet_below (by kernel_rfl) (by kernel_rfl) ?_
            quiet_step (fail)
            quiet_step (exact cA.out _ _)
            iterate 4 (quiet_step (fail))
            quiet_step (exact cC.out _ _)
            iterate 6 (quiet_step (fail))
            quiet_step (exact cB.out _ _)
            iterate 4 (quiet_step (fail))
            quiet_step (exact cC.out _ _)
            repeat (quiet_step (fail))
            refine wpQuiet_nil ?_
            intro _ hw'
            obtain ⟨⟨dq, osq⟩, hw''⟩ := hw'
            subst hw''
            have hbq := mkHid (b8f.out.trans ((below_regrown Wf dq osq).mono b8f.out.size))
            generalize Go.Sort.grow (redrawn Wf dq) osq = Wz at *
            clear j0 j1 j2 k0 k1 k2 cA cB cC
            go_wp2
            go_roundw
            case rel => exact ⟨i + 1, by go_num, by omega, hbq⟩
            case measure => simp [Lib.intOf]; omega
      · go_wp2
        go_ret
        exact ⟨rfl, Hb08.out.trans (Hb.out.mono z08)⟩
end Go.Proofs.YtadoifnfgoonaaaGreatDoor
namespace Go.Proofs.YtadoifnfgoonaaaGreatDoor
open Go.ChangeShapes Go.WideShapes Go.ChangeAt Go.RowKit
theorem wf8 (n : Int) (h : (Lit.int .u8 n).wf = true) : 0 ≤ n ∧ n < 256 := by
  have h' : (decide (IntKind.u8.min ≤ n) && decide (n ≤ IntKind.u8.max)) = true := h
  simp only [Bool.and_eq_true, decide_eq_true_eq] at h'
  have e0 : IntKind.u8.min = 0 := by decide
  have e1 : IntKind.u8.max = 255 := by decide
  omega
/-- Bytes as an argument. -/
theorem open_code {H : Type} {enc : TypeId × Value → H} {P : Program} {W : World} {sp : Nat → Bool} {t e : TypeId} {v : Value} {d : DataW H} {ps : List MemPlace}
    (ht : P.underlying t = some (.slice e)) (he : P.underlying e = some (.int .u8)) (ce : P.cellsOf e = 1) {r : Reach} {b0 : Nat} (hval : Value.okWide P W r b0 t v) (h : DataW.Trod enc P W 0 sp true t v d ps) :
    ∃ o c cap, v = .slice o c.length cap ∧ Code W.heap.size W o c ∧ c.length ≤ maxLen := by
  obtain ⟨a, len, cap, rfl⟩ := okWide_slice ht hval
  obtain ⟨fuel, hx⟩ := h
  rcases open_ints ht he ce hx with ⟨hc, -⟩ | ⟨a', len', cap', zs, hc, -, hl, hm, hz, -, hcell, hwf⟩
  · simp [Value.cells] at hc
    obtain ⟨rfl, rfl, rfl⟩ := hc
    exact ⟨none, [], 0, rfl, fun i hi => absurd hi (Nat.not_lt_zero _), Nat.zero_le _⟩
  · simp [Value.cells] at hc
    obtain ⟨rfl, rfl, rfl⟩ := hc
    have hlz : len ≤ zs.length := by rw [hz]; split <;> omega
    refine ⟨some a', (zs.take len).map fun n => UInt8.ofNat n.toNat, cap, by rw [List.length_map, List.length_take]; simp; omega, ?_, by rw [List.length_map, List.length_take]; omega⟩
    intro i hi
    rw [List.length_map, List.length_take] at hi
    have hc := hcell i (by omega)
    refine ⟨a', rfl, ?_, ?_⟩
    · have hlt : (a'.add i).block < W.heap.size := World.block_lt_of_cell? _ _ hc
      rw [← addr_block a' i]; exact hlt
    · have hw := wf8 zs[i] (hwf _ (List.getElem_mem (by omega)))
      have e : (((zs.take len).map fun n => UInt8.ofNat n.toNat)[i]'(by rw [List.length_map, List.length_take]; omega)).toNat = zs[i].toNat := by
        rw [List.getElem_map, List.getElem_take]
        simp [UInt8.toNat_ofNat']
        omega
      rw [e, hc, List.getD_eq_getElem?_getD, List.getElem?_eq_getElem (by omega)]
      show some (Value.int .u8 zs[i]) = _
      congr 2
      omega
end Go.Proofs.YtadoifnfgoonaaaGreatDoor
namespace Go.Proofs.YtadoifnfgoonaaaGreatDoor
open Go.RowKit Go.Lib
open Go Go.ChangeShapes Go.WideShapes Go.ChangeAt Go.WideMaps Go.WideElems Go.RowKit
set_option maxRecDepth 20000 in
theorem laidOut : laidOutB Tryz.prog = true := by kernel_rfl
set_option maxRecDepth 20000 in
theorem own : ownKnob Tryz.prog.godebug = none := by kernel_rfl
def laidP : List (String × DataW Unit) := [("unicode/utf8.acceptRanges", Rows.laid_unicode_utf8_acceptRanges), ("errors.errorType", Rows.laid_errors_errorType), ("unicode/utf8.first", Rows.laid_unicode_utf8_first)]
def laidQ : List (String × DataW Unit) := [("unicode/utf8.acceptRanges", Rows.laid_unicode_utf8_acceptRanges), ("unicode/utf8.first", Rows.laid_unicode_utf8_first)]
noncomputable def wit (os : Os) : World := (World.doorLaid Tryz.prog 2000 os).layVars Tryz.prog laidQ
set_option maxRecDepth 20000 in
theorem wit_os (os : Os) : (wit os).os = os := World.layVars_os _ _ _
set_option maxRecDepth 20000 in
theorem wit_met (os : Os) : laidMet Tryz.prog laidQ (wit os) :=
  laidMet_layVars (w0 := World.doorLaid Tryz.prog 2000 os) (laidQ.map (·.1)) [] (by rfl) (by kernel_rfl) (by kernel_rfl) LaidIn.none
set_option maxRecDepth 20000 in
theorem door_addrs (os : Os) (args : Array Value) : laidMetH Tryz.prog laidP ((wit os).forCall (fun _ _ => 0) ⟨#[], args, []⟩).memory :=
  laidMetH_of_parts ((wit_met os).of_heap (by simp [World.memory, World.forCall, Input.heap])) (by kernel_rfl)
set_option maxRecDepth 100000 in
theorem addrsLifted (os : Os) (started : os.Started) (H : Type) (enc : TypeId × Value → H) :
    ReturnsInHanded {} Tryz.checked os 3 .any (fun w args => (Rows.fnAddressesSpec.pre enc Tryz.prog Tryz.f3 [] false w args ∧ laidMetH Tryz.prog laidP w) ∧ sizedMet enc Tryz.prog Tryz.f3 (OpenSpec.ofChange Rows.fnAddressesSpec) false w args)
      (Rows.fnAddressesSpec.post enc Tryz.prog Tryz.f3 false true false false) := by
  refine returnsInHanded_of_calls (C := Tryz.checked) own started (by kernel_rfl)
    (ChangeSpec.witness_shaped (enc := enc) (C := Tryz.checked) (os := os) (X := fun w _ => laidMetH Tryz.prog laidP w) false (wit os) #[.slice none 0 0] 8 (wit_os os) (World.shaped_of_ZipB (by kernel_rfl) (by kernel_rfl)) (by kernel_rfl) (by kernel_rfl) (by kernel_rfl) (door_addrs os _)) ?_
  intro w tape inp _ hsh _ hok hpre _
  obtain ⟨_, _, _, fn', hfn', _, _, _, _, hval0⟩ := hok
  obtain rfl : fn' = Tryz.f3 := Option.some.inj (hfn'.symm.trans Tryz.func3)
  obtain ⟨⟨⟨ds, gs, before, hw, -⟩, -⟩, -⟩ := hpre
  have hW := DataW.Whole.of_heap (w' := w.forCall tape inp) (by rfl) hw
  obtain ⟨m, hm⟩ := Tryz.laysM146.s1_3 _ hsh
  generalize w.forCall tape inp = W at hsh hval0 hW hm ⊢
  generalize inp.args = args at hval0 hW ⊢
  have hval : ∀ (j : Nat) t v, Tryz.f3.params[j]? = some t → args[j]? = some v → Value.okWide Tryz.prog W .any w.heap.size t v := hval0
  have hW' := hW
  obtain ⟨p, q, hA0, hV, rfl, hfz, hnd⟩ := hW
  have hA : DataW.TrodAll enc Tryz.prog W 0 (fun _ => true) true Tryz.f3.params.toList args.toList ds p := hA0
  rw [Tryz.params3] at hA hval
  obtain ⟨v0, vs0, d0, ds0, p0, q0, hargs0, rfl, rfl, h0, r0⟩ := trodAll_cons hA
  obtain ⟨rfl, rfl, rfl⟩ := trodAll_nil r0
  obtain rfl : args = #[v0] := by cases args; simp_all
  obtain ⟨rfl, rfl⟩ := trodVars_none hV
  have hlt0 : ∀ x ∈ p0, x.block < W.heap.size := by obtain ⟨fuel, hx⟩ := h0; exact DataW.trod_lt fuel _ _ _ hx
  obtain ⟨o1, c1, cap1, rfl, hC1, hl1⟩ := open_code Tryz.underlying22 Tryz.underlying5 (by kernel_rfl) (hval 0 22 v0 rfl rfl) h0
  clear hA0 hval0
  simp only [List.append_nil] at hW'
  refine (walkAddrs o1 c1 cap1 W hC1 hl1 m hm).mono fun e W' ⟨he, bel⟩ => ?_
  subst he
  exact ChangeSpec.post_blind ⟨_, _, _, [], _, [], hW', trodAll_mk1 (shut_bool Tryz.underlying4 _), (trodAll_cons_mk (Below.trod laidOut (by kernel_rfl) (of_decide_eq_true (by kernel_rfl)) h0 bel hlt0) trodAll_mk0), rfl, bel.frame _, fun h => by cases h⟩

set_option maxRecDepth 20000 in
theorem addrs_row : Rows.FnAddressesSaid :=
  OpenClaim.holds_of_wide 3 Tryz.f3 rfl rfl rfl rfl rfl rfl rfl ⟨rfl, rfl, rfl, rfl, rfl⟩ rfl rfl rfl rfl rfl (by kernel_rfl) Tryz.func3 (by kernel_rfl)
    (of_decide_eq_true (by kernel_rfl)) (by unfold Func.isWrapper; first | (rw [if_pos (by decide +kernel)]; kernel_rfl) | (rw [if_neg (by decide +kernel)]; exact ⟨rfl, rfl⟩))
    (fun os started H enc _ => addrsLifted os started H enc)
set_option maxRecDepth 20000 in
theorem addrs_holds : Rows.FnAddressesCardSaid :=
  Claim7.holds_tied_plain_at .later [] [.data, .handle, .pinned] true (true, "53e97bcc23065887f60f178f22afd3229804dd9e10d124c3cbf5963acdec9687") true
    addrs_row (fun _ h => by cases h) (by kernel_rfl) (fun _ h => by cases h) fnAddresses_row_tie rfl ⟨rfl, rfl⟩ (by kernel_rfl) rfl
    (fun f fn hf hfn => by
      obtain rfl : f = 3 := Option.some.inj ((show Tryz.prog.funcNamed "loop.example/g00013/laws.FnAddresses" = some 3 by kernel_rfl).symm.trans hf) |>.symm
      obtain rfl : fn = Tryz.f3 := (Option.some.inj (Tryz.func3.symm.trans hfn)).symm
      exact ⟨by kernel_rfl, fun j t ht => by
        rw [Tryz.params3] at ht
        have hm : t ∈ [22] := by simpa using Array.mem_of_getElem? ht
        have hall : ([22].all fun u => !Tryz.prog.wantsStandIn u) = true := by kernel_rfl
        exact (show Tryz.prog.wantsStandIn t = false by simpa using List.all_eq_true.1 hall t hm)⟩)
    (by kernel_rfl)
#print axioms addrs_holds
end Go.Proofs.YtadoifnfgoonaaaGreatDoor
