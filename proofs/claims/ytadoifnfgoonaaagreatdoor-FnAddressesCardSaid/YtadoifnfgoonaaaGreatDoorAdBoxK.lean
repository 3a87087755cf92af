
/- What drawn entries give to both writers. -/

/- The law's comparison of boxes. -/

/- All boxes of a list: plain. -/

/- All boxes of a list: the program's small steps. -/

/- All boxes of a list: the specification. -/

/- All boxes of a list: appendBoxes. -/

/- All boxes of a list: the program. -/
import Derived.Test.YtadoifnfgoonaaaGreatDoorSpecAddrsX
import Derived.Test.YtadoifnfgoonaaaGreatDoorSpecPlainX
import Derived.OrdersHeld
namespace Go.Proofs.YtadoifnfgoonaaaGreatDoor
open Go.RowKit Go.Lib
set_option maxRecDepth 20000 in
theorem En.ok.sml {e : En} (h : e.ok) : e.sml := by
  obtain ⟨h1, ⟨h2, h3, h4⟩, h5, h6⟩ := h
  refine ⟨h1, ⟨by omega, by omega, by omega⟩, h5, fun b hb => ?_⟩
  obtain ⟨b1, b2, b3⟩ := h6 b hb
  exact ⟨by omega, by omega, by omega⟩
set_option maxRecDepth 20000 in
theorem En.last.sml {e : En} (h : e.last) : e.sml := by
  obtain ⟨h1, ⟨h2, h3, h4⟩, h5, h6⟩ := h
  refine ⟨h1, ⟨by omega, by omega, by omega⟩, by omega, fun b hb => ?_⟩
  obtain ⟨b1, b2, b3⟩ := h6 b hb
  exact ⟨by omega, by omega, by omega⟩
set_option maxRecDepth 20000 in
theorem Drawn.sml {E : List En} (h : Drawn E) : ∀ e ∈ E, e.sml := by
  obtain ⟨D, X, rfl, -, -, h1, h2⟩ := h
  intro e he
  rcases List.mem_append.1 he with h | h
  · exact (h1 e h).sml
  · exact (h2 e h).sml
set_option maxRecDepth 20000 in
theorem OwnB.memAt {B : Nat} {vo : Option Addr} {vc : Nat} {M : List Bx3} {w : World} (h : OwnB B (.slice vo M.length vc) M w) : MemAt w.heap.size vo M w := fun j hj => by
  obtain ⟨gL, -, h2, h3, h4⟩ := h.cellsAt (by omega)
  exact ⟨gL, h2, h3, h4 j hj⟩
set_option maxRecDepth 20000 in
theorem OwnB.cap {B : Nat} {vo : Option Addr} {n vc : Nat} {M : List Bx3} {w : World} (h : OwnB B (.slice vo n vc) M w) : M.length ≤ vc := by
  rcases h.2 with ⟨hv, h0⟩ | ⟨g, cap, cur, hv, -, -, h1, h2⟩
  · omega
  · simp only [Value.slice.injEq] at hv
    omega
set_option maxRecDepth 20000 in
/-- Entries in memory as the program's writer asks for them. -/
theorem Ens.ensAt {B : Nat} {oo : Option Addr} {cc : Nat} {D : List EnE} {w : World} (h : Ens B (.slice oo D.length cc) D w) : EnsAt w.heap.size oo (D.map (·.1)) w := fun j hj => by
  have hj' : j < D.length := by simpa using hj
  obtain ⟨gL, h1, h2, h3⟩ := h.cellsAt (by omega)
  have ho := h.own D[j] (List.getElem_mem hj')
  obtain ⟨vo, vc, hv⟩ := ho.shape
  have h4 := h3 j hj'
  rw [hv] at ho h4
  have e : (D.map (·.1))[j] = D[j].1 := by simp
  rw [e]
  exact ⟨gL, vo, vc, h1, h2, h4, ho.memAt, ho.cap⟩
end Go.Proofs.YtadoifnfgoonaaaGreatDoor
namespace Go.Proofs.YtadoifnfgoonaaaGreatDoor
open Go.RowKit Go.Lib
set_option maxRecDepth 20000 in
set_option maxHeartbeats 2000000 in
theorem lwBoxesSame (B : Nat) (ao bo : Option Addr) (ac bc : Nat) (M : List Bx3) (w : World) (ha : MemAt B ao M w) (hb : MemAt B bo M w) (hB : B ≤ w.heap.size) (hl : M.length ≤ 1000) :
    Calls Tryz.prog 10 #[.slice ao M.length ac, .slice bo M.length bc] w fun e w' => e = .returned (.bool true) ∧ Below w.heap.size w w' := by
  have HA := mkHid ha
  have HBb := mkHid hb
  clear ha hb
  go_enter Tryz.func10, Tryz.ntmps10
  go_wp2
  go_loopw [5] (fun iv wr => ∃ i : Nat, iv = .int .i64 i ∧ i ≤ M.length ∧ Hid (Below w.heap.size w wr)) (fun iv _ => M.length - (Lib.intOf iv).toNat)
  case atStart => exact ⟨0, rfl, Nat.zero_le _, mkHid (Below.refl _ _)⟩
  case round =>
    obtain ⟨i, rfl, hi, Hb⟩ := hrel
    by_cases hlt : i < M.length
    · obtain ⟨gA, hgA, rfl, a0, a1, a2⟩ := HA.out i hlt
      obtain ⟨gB, hgB, rfl, b0, b1, b2⟩ := HBb.out i hlt
      generalize M[i] = q at a0 a1 a2 b0 b1 b2
      obtain ⟨n, l, d⟩ := q
      have k : ∀ g q, g < B → wr.cell? ⟨g, q, none⟩ = w.cell? ⟨g, q, none⟩ := fun g q h => Hb.out.cell (p := ⟨g, q, none⟩) (show g < _ by omega)
      have c0 := (k gA _ hgA).trans a0
      have c1 := (k gA _ hgA).trans a1
      have c2 := (k gA _ hgA).trans a2
      have d0 := (k gB _ hgB).trans b0
      have d1 := (k gB _ hgB).trans b1
      have d2 := (k gB _ hgB).trans b2
      clear a0 a1 a2 b0 b1 b2 k
      go_wp2
      go_quiet (fail)
      go_wp2
      go_roundw
      case rel => exact ⟨i + 1, by go_num, by omega, mkHid (below_drewN Hb.out _)⟩
      case measure => simp [Lib.intOf]; omega
    · go_wp2
      go_ret
      exact ⟨rfl, Hb.out⟩
end Go.Proofs.YtadoifnfgoonaaaGreatDoor
namespace Go.Proofs.YtadoifnfgoonaaaGreatDoor
open Go.RowKit Go.Lib
def En.bxs (e : En) : List Bx3 := if e.grp then e.mem else [⟨e.n, e.l, e.d⟩]
def bxsOf (E : List En) : List Bx3 := E.flatMap En.bxs
set_option maxRecDepth 20000 in
theorem En.bxs_len (e : En) : e.bxs.length = e.cnt := by
  unfold En.bxs En.cnt
  split <;> rfl
set_option maxRecDepth 20000 in
theorem bxsOf_len : ∀ E : List En, (bxsOf E).length = cntS E
  | [] => rfl
  | a :: E => by
    have h := bxsOf_len E
    simp only [bxsOf, List.flatMap_cons, List.length_append, En.bxs_len, cntS] at h ⊢
    omega
set_option maxRecDepth 20000 in
theorem bxsOf_snoc (E : List En) (k : Nat) (h : k < E.length) : bxsOf (E.take (k + 1)) = bxsOf (E.take k) ++ E[k].bxs := by
  rw [List.take_succ_eq_append_getElem h, bxsOf, bxsOf, List.flatMap_append]
  simp
set_option maxRecDepth 20000 in
theorem bxsOf_take_len (E : List En) (k : Nat) : (bxsOf (E.take k)).length ≤ (bxsOf E).length := by
  have e : bxsOf E = bxsOf (E.take k) ++ bxsOf (E.drop k) := by
    rw [bxsOf, bxsOf, bxsOf, ← List.flatMap_append, List.take_append_drop]
  rw [e, List.length_append]
  omega
set_option maxRecDepth 20000 in
theorem bxsOf_mem {E : List En} {b : Bx3} (h : b ∈ bxsOf E) : ∃ e ∈ E, b ∈ e.bxs := by
  simpa [bxsOf] using h
set_option maxRecDepth 20000 in
/-- A box of entries that can be written can be written. -/
theorem bxsOf_ok {E : List En} (h : E.all enOk = true) : ∀ b ∈ bxsOf E, addrOk b.n b.l b.d = true := by
  intro b hb
  obtain ⟨e, he, hbe⟩ := bxsOf_mem hb
  have ho := List.all_eq_true.1 h e he
  unfold enOk at ho
  unfold En.bxs at hbe
  cases hg : e.grp with
  | true =>
    rw [hg] at ho hbe
    simp only [if_true, Bool.and_eq_true] at ho hbe
    exact List.all_eq_true.1 ho.2.2.2.2 b hbe
  | false =>
    rw [hg] at ho hbe
    simp only [Bool.false_eq_true, if_false, Bool.and_eq_true, List.mem_singleton] at ho hbe
    subst hbe
    exact ho.1
end Go.Proofs.YtadoifnfgoonaaaGreatDoor
namespace Go.Proofs.YtadoifnfgoonaaaGreatDoor
open Go.RowKit Go.Lib
set_option maxRecDepth 20000 in
theorem implTooLongB (s : ByteArray) (w : World) (hs : s.size ≤ 100000) : Calls Tryz.prog 28 #[.string s] w fun e w' => e = .returned (.bool false) ∧ w = w' := by
  have h : ¬ (100000 : Int) < (s.size : Int) := by omega
  go_enter Tryz.func28, Tryz.ntmps28
  go_wp2
  go_ret
  exact ⟨rfl, rfl⟩
set_option maxRecDepth 20000 in
set_option maxHeartbeats 1000000 in
theorem implHasLong (b : Bx3) (w : World) (hb : b.sm) : Calls Tryz.prog 31 #[.agg #[.string b.n, .string b.l, .string b.d]] w fun e w' => e = .returned (.bool false) ∧ Below w.heap.size w w' := by
  obtain ⟨h1, h2, h3⟩ := hb
  obtain ⟨V, hV⟩ : ∃ V, w.alloc (.cells #[.string b.n, .string b.l, .string b.d] 35) = V := ⟨_, rfl⟩
  have bV : Below w.heap.size w V := by rw [← hV]; exact (Below.refl _ _).alloc (Nat.le_refl _) _
  have c1 := mkHid (fun W => implTooLongB b.n W (by omega))
  have c2 := mkHid (fun W => implTooLongB b.l W (by omega))
  have c3 := mkHid (fun W => implTooLongB b.d W (by omega))
  have HV := mkHid hV
  have HbV := mkHid bV
  clear hV bV
  go_enter Tryz.func31, Tryz.ntmps31
  go_wp2_with fail
  refine (c1.out _).mono ?_
  rintro e w1 ⟨rfl, rfl⟩
  go_wp2_with fail
  refine (c2.out _).mono ?_
  rintro e w1 ⟨rfl, rfl⟩
  go_wp2_with fail
  refine (c3.out _).mono ?_
  rintro e w1 ⟨rfl, rfl⟩
  go_wp2
  go_ret
  rw [HV.out]
  exact ⟨rfl, HbV.out⟩
set_option maxRecDepth 20000 in
set_option maxHeartbeats 2000000 in
theorem implIndexLong (B : Nat) (o : Option Addr) (M : List Bx3) (cap : Nat) (w : World) (hM : MemAt B o M w) (hB : B ≤ w.heap.size) (hl : M.length ≤ 1000) (hsm : ∀ b ∈ M, b.sm) :
    Calls Tryz.prog 60 #[.slice o M.length cap, .func (.func 31) #[] #[]] w fun e w' => e = .returned (.int .i64 (-1)) ∧ Below w.heap.size w w' := by
  have hE : ∀ (args : Array Value) (w : World), (callFunc 31 args).run Tryz.prog w = .ok (.enter 31 args) w := Go.Proofs.enters_of Tryz.func31 (by kernel_rfl) rfl
  have HM := mkHid hM
  have Hsm := mkHid hsm
  clear hM hsm
  go_enter Tryz.func60, Tryz.ntmps60
  go_wp2
  go_loopw [5, 8] (fun _ iv wr => ∃ k : Nat, k ≤ M.length ∧ iv = .int .i64 k ∧ Hid (Below w.heap.size w wr)) (fun _ iv _ => M.length - (Lib.intOf iv).toNat)
  case atStart => exact ⟨0, Nat.zero_le _, rfl, Below.refl _ _⟩
  case round =>
    obtain ⟨k, hk, rfl, hb⟩ := hrel
    by_cases hlt : k < M.length
    · obtain ⟨gA, hgA, rfl, a0, a1, a2⟩ := (HM.out.keep (hb.out.mono hB)) k hlt
      have cN := mkHid (implHasLong M[k] wr (Hsm.out _ (List.getElem_mem hlt)))
      generalize M[k] = x at *
      go_wp2_with fail
      refine cN.out.mono ?_
      rintro e w1 ⟨rfl, hb1⟩
      have hB1 := mkHid (hb.out.trans (hb1.mono hb.out.size))
      clear cN hb1 hb
      go_wp2
      go_roundw
      case rel => exact ⟨k + 1, by omega, by go_num, hB1⟩
      case measure => simp [Lib.intOf]; omega
    · go_wp2
      go_ret
      exact ⟨rfl, hb.out⟩
set_option maxRecDepth 20000 in
theorem implContainsLong (B : Nat) (o : Option Addr) (M : List Bx3) (cap : Nat) (w : World) (hM : MemAt B o M w) (hB : B ≤ w.heap.size) (hl : M.length ≤ 1000) (hsm : ∀ b ∈ M, b.sm) :
    Calls Tryz.prog 32 #[.slice o M.length cap, .func (.func 31) #[] #[]] w fun e w' => e = .returned (.bool false) ∧ Below w.heap.size w w' := by
  have hI := mkHid (implIndexLong B o M cap w hM hB hl hsm)
  clear hM hsm
  go_enter Tryz.func32, Tryz.ntmps32
  go_wp2_with fail
  refine hI.out.mono ?_
  rintro e w2 ⟨rfl, hb⟩
  go_wp2
  go_ret
  exact ⟨rfl, hb⟩
end Go.Proofs.YtadoifnfgoonaaaGreatDoor
namespace Go.Proofs.YtadoifnfgoonaaaGreatDoor
open Go.RowKit Go.Lib
set_option maxRecDepth 20000 in
theorem OwnB.made (B : Nat) (w : World) (hB : B ≤ w.heap.size) : OwnB B (.slice (some ⟨w.heap.size, 0, none⟩) 0 0) [] (w.alloc (.cells #[] 35)) :=
  ⟨rfl, .inr ⟨w.heap.size, 0, #[], rfl, hB, hp_alloc _ _, Nat.le_refl _, Nat.zero_le _, rfl, rfl⟩⟩
set_option maxRecDepth 20000 in
theorem box_new {b : Bx3} (wr : World) : (wr.alloc (.cells #[.string b.n, .string b.l, .string b.d] 35)).heap[wr.heap.size]? = some (.cells #[.string b.n, .string b.l, .string b.d] 35 (0, 0)) := hp_alloc _ _
set_option maxRecDepth 20000 in
set_option maxHeartbeats 8000000 in
theorem specBoxes (oo : Option Addr) (cc : Nat) (E : List En) (w : World) (hE : EnsAt w.heap.size oo E w) (hl : E.length ≤ 1000) (hm : ∀ e ∈ E, e.mem.length ≤ 1000) (hc : cntS E ≤ 499) :
    Calls Tryz.prog 9 #[.slice oo E.length cc] w fun r w' => ∃ v, r = .returned v ∧ OwnB w.heap.size v (bxsOf E) w' ∧ Below w.heap.size w w' := by
  have HE := mkHid hE
  have Hm := mkHid hm
  rw [← bxsOf_len] at hc
  have hO0 := mkHid (OwnB.made w.heap.size w (Nat.le_refl _))
  have hB0 := mkHid ((Below.refl w.heap.size w).alloc (Nat.le_refl _) (.cells #[] 35))
  clear hE hm
  go_enter Tryz.func9, Tryz.ntmps9
  go_wp2
  go_loopw [3, 4] (fun v iv wr => ∃ i : Nat, iv = .int .i64 i ∧ i ≤ E.length ∧ Hid (OwnB w.heap.size v (bxsOf (E.take i)) wr) ∧ Hid (Below w.heap.size w wr)) (fun _ iv _ => E.length - (Lib.intOf iv).toNat)
  case atStart => exact ⟨0, rfl, Nat.zero_le _, hO0, hB0⟩
  case round =>
    obtain ⟨i, rfl, hi, HO, Hb⟩ := hrel
    clear hO0 hB0
    obtain ⟨ob, cb, rfl⟩ := HO.out.shape
    have hsz : w.heap.size ≤ wr.heap.size := Hb.out.size
    by_cases hlt : i < E.length
    · obtain ⟨gA, va, vca, hgA, rfl, ⟨a0, a1, a2, a3, a4, a5⟩, hMa, -⟩ := HE.out i hlt
      have hme := Hm.out E[i] (List.getElem_mem hlt)
      have Hsn := mkHid (bxsOf_snoc E i hlt)
      have hsl := bxsOf_take_len E (i + 1)
      rw [Hsn.out, List.length_append] at hsl
      generalize E[i] = q at a0 a1 a2 a3 a4 a5 hMa hme Hsn hsl
      obtain ⟨grp, nm, n, l, d, M⟩ := q
      have HK : Hid (∀ V, Below w.heap.size w V → ∀ q, V.cell? ⟨gA, q, none⟩ = w.cell? ⟨gA, q, none⟩) := mkHid (fun V hV q => hV.cell (p := ⟨gA, q, none⟩) hgA)
      have k := HK.out wr Hb.out
      have c0 := (k _).trans a0
      have c2 := (k _).trans a2
      have c3 := (k _).trans a3
      have c4 := (k _).trans a4
      have c5 := (k _).trans a5
      clear k a0 a1 a2 a3 a4
      have A5 := mkHid a5
      clear a5
      have HMa := mkHid hMa
      clear hMa
      have hme : M.length ≤ 1000 := hme
      generalize hL : bxsOf (E.take i) = L at *
      clear hL
      cases grp with
      | false =>
        have hsl : L.length + 1 ≤ (bxsOf E).length := hsl
        have ell : (L.length : Int) < 500 := by omega
        have HN := mkHid (box_new (b := ⟨n, l, d⟩) wr)
        have HB1 := mkHid ((Below.refl wr.heap.size wr).alloc (Nat.le_refl _) (.cells #[.string n, .string l, .string d] 35))
        have HO1 := mkHid (HO.out.below HB1.out)
        have hs1 := mkHid (Nat.le_trans hsz HB1.out.size)
        clear HO
        go_wp2_with (at_builtin; refine wp_appBx rfl _ _ rfl w.heap.size (.slice ob L.length cb) L rfl HO1.out ⟨n, l, d⟩ wr.heap.size _ rfl HN.out (by omega) hs1.out ?_; intro v5 w5 hown5 hb5; refine Hid.out ?_)
        refine mkHid ?_
        have Hb5 := mkHid ((Hb.out.trans (HB1.out.mono hsz)).trans hb5)
        clear hb5 HB1 Hb hs1 HN HO1
        go_wp2
        go_roundw
        case rel => exact ⟨i + 1, by go_num, by omega, mkHid (by rw [Hsn.out]; exact hown5), Hb5⟩
        case measure => simp [Lib.intOf]; omega
      | true =>
        have hsl : L.length + M.length ≤ (bxsOf E).length := hsl
        have c0' : wr.cell? ⟨gA, i * 6, none⟩ = some (.bool true) := c0
        clear c0 c2 c3 c4 c5
        go_wp2
        obtain ⟨V, hV⟩ : ∃ V, V = wr := ⟨_, rfl⟩
        rw [← hV] at HO Hb hsz c0' ⊢
        clear hV
        go_loopw [3, 5] (fun v iv wq => ∃ k : Nat, iv = .int .i64 k ∧ k ≤ M.length ∧ Hid (OwnB w.heap.size v (L ++ M.take k) wq) ∧ Hid (Below w.heap.size w wq)) (fun _ iv _ => M.length - (Lib.intOf iv).toNat)
        case atStart => exact ⟨0, rfl, Nat.zero_le _, mkHid (by simpa using HO.out), Hb⟩
        case round =>
          obtain ⟨k, rfl, hk, HO, Hb⟩ := hrel
          obtain ⟨ob, cb, rfl⟩ := HO.out.shape
          have hsz : w.heap.size ≤ wr.heap.size := Hb.out.size
          have c5 : wr.cell? ⟨gA, i * 6 + 5, none⟩ = some (.slice va M.length vca) := (HK.out wr Hb.out _).trans A5.out
          have hll : (L ++ M.take k).length = L.length + k := by rw [List.length_append, List.length_take]; omega
          have ell : ((L ++ M.take k).length : Int) < 500 := by omega
          by_cases hkl : k < M.length
          · obtain ⟨gM, hgM, rfl, d0, d1, d2⟩ := (HMa.out.keep Hb.out) k hkl
            have Hsk : Hid (L ++ M.take (k + 1) = (L ++ M.take k) ++ [M[k]]) := mkHid (by rw [List.take_succ_eq_append_getElem hkl, List.append_assoc])
            generalize M[k] = q at d0 d1 d2 Hsk
            obtain ⟨n', l', d'⟩ := q
            have HN := mkHid (box_new (b := ⟨n', l', d'⟩) wr)
            have HB1 := mkHid ((Below.refl wr.heap.size wr).alloc (Nat.le_refl _) (.cells #[.string n', .string l', .string d'] 35))
            have HO1 := mkHid (HO.out.below HB1.out)
            have hs1 := mkHid (Nat.le_trans hsz HB1.out.size)
            generalize L ++ M.take k = L' at *
            clear HO
            go_wp2_with (at_builtin; refine wp_appBx rfl _ _ rfl w.heap.size (.slice ob L'.length cb) L' rfl HO1.out ⟨n', l', d'⟩ wr.heap.size _ rfl HN.out (by omega) hs1.out ?_; intro v5 w5 hown5 hb5; refine Hid.out ?_)
            refine mkHid ?_
            have Hb5 := mkHid ((Hb.out.trans (HB1.out.mono hsz)).trans hb5)
            clear hb5 HB1 Hb hs1 HN HO1
            go_wp2
            go_roundw
            case rel => exact ⟨k + 1, by go_num, by omega, mkHid (by rw [Hsk.out]; exact hown5), Hb5⟩
            case measure => simp [Lib.intOf]; omega
          · have ek : M.take k = M := List.take_of_length_le (by omega)
            rw [ek] at HO ⊢
            go_wp2
            go_roundw
            case rel => exact ⟨i + 1, by go_num, by omega, mkHid (by rw [Hsn.out]; exact HO.out), Hb⟩
            case measure => simp [Lib.intOf]; omega
    · have e : bxsOf (E.take i) = bxsOf E := by rw [List.take_of_length_le (by omega)]
      rw [e] at HO ⊢
      go_wp2
      go_ret
      exact ⟨_, rfl, HO.out, Hb.out⟩
end Go.Proofs.YtadoifnfgoonaaaGreatDoor
namespace Go.Proofs.YtadoifnfgoonaaaGreatDoor
open Go.RowKit Go.Lib
set_option maxRecDepth 20000 in
set_option maxHeartbeats 8000000 in
theorem implAppendBoxes (B : Nat) (ou : Option Addr) (cu : Nat) (C : List Bx3) (vo : Option Addr) (vc : Nat) (M : List Bx3) (w : World) (hO : OwnB B (.slice ou C.length cu) C w) (hM : MemAt w.heap.size vo M w) (hM2 : M.length ≤ 1 ∨ MemAt B vo M w) (hB : B ≤ w.heap.size) (hc : C.length + M.length ≤ 499) (hvc : M.length ≤ vc) (hs : ∀ b ∈ M, b.sm) :
    Calls Tryz.prog 33 #[.slice ou C.length cu, .slice vo M.length vc] w fun e w' => ∃ v, e = .returned v ∧ OwnB B v (C ++ M) w' ∧ Below B w w' := by
  have hcell : ∀ k (hk : k < M.length) V, Below B w V → (k = 0 → Below w.heap.size w V) → ∃ gL, gL < w.heap.size ∧ vo = some ⟨gL, 0, none⟩ ∧ V.cell? ⟨gL, k * 3, none⟩ = some (.string M[k].n) ∧ V.cell? ⟨gL, k * 3 + 1, none⟩ = some (.string M[k].l) ∧ V.cell? ⟨gL, k * 3 + 2, none⟩ = some (.string M[k].d) := by
    intro k hk V h1 h2
    by_cases h0 : k = 0
    · exact (hM.keep (h2 h0)) k hk
    · rcases hM2 with h | h
      · omega
      · obtain ⟨gL, g1, g2⟩ := (h.keep h1) k hk
        exact ⟨gL, by omega, g2⟩
  have Hcell := mkHid hcell
  have Hs := mkHid hs
  have HO0 := mkHid hO
  clear hcell hM hM2 hs hO
  have m1 : min (M.length : Int) (500 - (C.length : Int)) = (M.length : Int) := by omega
  have m2 : ¬ (500 - (C.length : Int)) < (M.length : Int) := by omega
  go_enter Tryz.func33, Tryz.ntmps33
  go_wp2
  go_loopw [0, 16] (fun v iv wr => ∃ i : Nat, iv = .int .i64 i ∧ i ≤ M.length ∧ Hid (OwnB B v (C ++ M.take i) wr) ∧ Hid (Below B w wr) ∧ Hid (i = 0 → Below w.heap.size w wr)) (fun _ iv _ => M.length - (Lib.intOf iv).toNat)
  case atStart => exact ⟨0, rfl, Nat.zero_le _, mkHid (by simpa using HO0.out), mkHid (Below.refl _ _), mkHid (fun _ => Below.refl _ _)⟩
  case round =>
    obtain ⟨i, rfl, hi, HO, Hb, Hb0⟩ := hrel
    clear HO0
    obtain ⟨ob, cb, rfl⟩ := HO.out.shape
    have hsz : w.heap.size ≤ wr.heap.size := Hb.out.size
    by_cases hlt : i < M.length
    · obtain ⟨gA, hgA, rfl, c0, c1, c2⟩ := Hcell.out i hlt wr Hb.out Hb0.out
      obtain ⟨s1, s2, s3⟩ := Hs.out M[i] (List.getElem_mem hlt)
      have Hsn : Hid (C ++ M.take (i + 1) = (C ++ M.take i) ++ [M[i]]) := mkHid (by rw [List.take_succ_eq_append_getElem hlt, List.append_assoc])
      have hL : (C ++ M.take i).length ≤ 499 := by rw [List.length_append, List.length_take]; omega
      generalize M[i] = q at c0 c1 c2 s1 s2 s3 Hsn
      obtain ⟨n, l, d⟩ := q
      generalize C ++ M.take i = L at *
      have s1 : n.size ≤ 1000 := s1
      have s2 : l.size ≤ 1000 := s2
      have s3 : d.size ≤ 1000 := s3
      obtain ⟨W0, hW0⟩ : ∃ W0, W0 = wr.alloc (.cells #[.string n, .string l, .string d] 35) := ⟨_, rfl⟩
      have hN0 : W0.heap[wr.heap.size]? = some (.cells #[.string n, .string l, .string d] 35 (0, 0)) := by rw [hW0]; exact hp_alloc _ _
      have hB0 : Below wr.heap.size wr W0 := by rw [hW0]; exact (Below.refl _ _).alloc (Nat.le_refl _) _
      have hs0 : W0.heap.size = wr.heap.size + 1 := by rw [hW0, World.size_alloc]
      have HW0 := mkHid hW0
      clear hW0
      have HS : Hid (∀ V, Below W0.heap.size W0 V → V.cell? ⟨wr.heap.size, 0, none⟩ = some (.string n) ∧ V.cell? ⟨wr.heap.size, 1, none⟩ = some (.string l) ∧ V.cell? ⟨wr.heap.size, 2, none⟩ = some (.string d)) := mkHid (fun V hV => by
        obtain ⟨t0, t1, t2⟩ := tri_cells hN0
        exact ⟨(hV.cell (p := ⟨wr.heap.size, 0, none⟩) (show wr.heap.size < _ by omega)).trans t0, (hV.cell (p := ⟨wr.heap.size, 1, none⟩) (show wr.heap.size < _ by omega)).trans t1, (hV.cell (p := ⟨wr.heap.size, 2, none⟩) (show wr.heap.size < _ by omega)).trans t2⟩)
      have HO1 := mkHid (HO.out.below hB0)
      have HB0 := mkHid hB0
      have c1' := mkHid (fun V => libClone n V (by omega))
      have c2' := mkHid (fun V => libClone l V (by omega))
      have c3' := mkHid (fun V => libClone d V (by omega))
      clear hB0 hN0
      go_wp2
      rw [← HW0.out]
      have hb0 : Below W0.heap.size W0 { W0 with drawn := W0.drawn + 1 } := (Below.refl W0.heap.size W0).drew
      refine wp_region_held (S := fun V => V.cell? ⟨wr.heap.size, 0, none⟩ = some (.string n) ∧ V.cell? ⟨wr.heap.size, 1, none⟩ = some (.string l) ∧ V.cell? ⟨wr.heap.size, 2, none⟩ = some (.string d)) (by kernel_rfl) ?_
      refine wpAnyH_take (i := 0) (v := .slice ob L.length cb) rfl (by kernel_rfl) (by kernel_rfl) (by kernel_rfl) (fun _ _ _ h => h) (Or.inl ⟨by rfl, ?_⟩) (HS.out _ hb0) ?_
      · rintro w ⟨s1, s2, s3⟩
        go_simp
      go_simp
      refine wpAnyH_take (i := 1) (v := .pointer (some ⟨wr.heap.size, 0, none⟩)) rfl (by kernel_rfl) (by kernel_rfl) (by kernel_rfl) (fun _ _ _ h => h) (Or.inl ⟨by rfl, ?_⟩) (HS.out _ hb0) ?_
      · rintro w ⟨s1, s2, s3⟩
        go_simp
      go_simp
      refine wpAnyH_take (i := 2) (v := .string n) rfl (by kernel_rfl) (by kernel_rfl) (by kernel_rfl) (fun _ _ _ h => h) (Or.inl ⟨by rfl, ?_⟩) (HS.out _ hb0) ?_
      · rintro w ⟨s1, s2, s3⟩
        go_simp
      go_simp
      refine wpAnyH_take (i := 4) (v := .pointer (some ⟨wr.heap.size, 1, none⟩)) rfl (by kernel_rfl) (by kernel_rfl) (by kernel_rfl) (fun _ _ _ h => h) (Or.inl ⟨by rfl, ?_⟩) (HS.out _ hb0) ?_
      · rintro w ⟨s1, s2, s3⟩
        go_simp
      go_simp
      refine wpAnyH_take (i := 5) (v := .string l) rfl (by kernel_rfl) (by kernel_rfl) (by kernel_rfl) (fun _ _ _ h => h) (Or.inl ⟨by rfl, ?_⟩) (HS.out _ hb0) ?_
      · rintro w ⟨s1, s2, s3⟩
        go_simp
      go_simp
      refine wpAnyH_take (i := 7) (v := .pointer (some ⟨wr.heap.size, 2, none⟩)) rfl (by kernel_rfl) (by kernel_rfl) (by kernel_rfl) (fun _ _ _ h => h) (Or.inl ⟨by rfl, ?_⟩) (HS.out _ hb0) ?_
      · rintro w ⟨s1, s2, s3⟩
        go_simp
      go_simp
      refine wpAnyH_take (i := 8) (v := .string d) rfl (by kernel_rfl) (by kernel_rfl) (by kernel_rfl) (fun _ _ _ h => h) (Or.inl ⟨by rfl, ?_⟩) (HS.out _ hb0) ?_
      · rintro w ⟨s1, s2, s3⟩
        go_simp
      go_simp
      refine wpAnyH_all (rs := [3]) (by kernel_rfl) (by simp) ?_
      intro q hq
      simp only [List.mem_cons, List.not_mem_nil, or_false] at hq
      subst hq
      refine wpOp_step rfl (fun K hK => ?_)
      go_simp
      refine (c1'.out _).mono ?_
      rintro e x1 ⟨rfl, hx1⟩
      have hb1 : Below W0.heap.size W0 x1 := hb0.trans (hx1.mono hb0.size)
      clear hx1
      refine hK _ _ ⟨HS.out _ hb1, ?_⟩
      clear hK K
      go_simp
      refine wpAnyH_all (rs := [6]) (by kernel_rfl) (by simp) ?_
      intro q hq
      simp only [List.mem_cons, List.not_mem_nil, or_false] at hq
      subst hq
      refine wpOp_step rfl (fun K hK => ?_)
      go_simp
      refine (c2'.out _).mono ?_
      rintro e x2 ⟨rfl, hx2⟩
      have hb2 : Below W0.heap.size W0 x2 := hb1.trans (hx2.mono hb1.size)
      clear hx2
      refine hK _ _ ⟨HS.out _ hb2, ?_⟩
      clear hK K
      go_simp
      refine wpAnyH_all (rs := [9]) (by kernel_rfl) (by simp) ?_
      intro q hq
      simp only [List.mem_cons, List.not_mem_nil, or_false] at hq
      subst hq
      refine wpOp_step rfl (fun K hK => ?_)
      go_simp
      refine (c3'.out _).mono ?_
      rintro e x3 ⟨rfl, hx3⟩
      have hb3 : Below W0.heap.size W0 x3 := hb2.trans (hx3.mono hb2.size)
      clear hx3
      refine hK _ _ ⟨HS.out _ hb3, ?_⟩
      clear hK K
      go_simp
      refine wpAnyH_take (i := 10) (v := .agg #[.string n, .string l, .string d]) rfl (by kernel_rfl) (by kernel_rfl) (by kernel_rfl) (fun _ _ _ h => h) (Or.inl ⟨by rfl, ?_⟩) (HS.out _ hb3) ?_
      · rintro w ⟨s1, s2, s3⟩
        go_simp
      go_simp
      have ha : Below W0.heap.size W0 (x3.alloc (.cells #[.string n, .string l, .string d] 35)) := hb3.alloc hb3.size _
      have hna : (x3.alloc (.cells #[.string n, .string l, .string d] 35)).heap[x3.heap.size]? = some (.cells #[.string n, .string l, .string d] 35 (0, 0)) := hp_alloc _ _
      have HOa := mkHid (HO1.out.below ha)
      have hsa := ha.size
      refine wpAnyH_all (rs := [11]) (by kernel_rfl) (by simp) ?_
      intro q hq
      simp only [List.mem_cons, List.not_mem_nil, or_false] at hq
      subst hq
      refine wpOp_step rfl (fun K hK => ?_)
      go_simp
      refine hK _ _ ⟨HS.out _ ha, ?_⟩
      clear hK K
      go_simp
      refine wpAnyH_all (rs := [12]) (by kernel_rfl) (by simp) ?_
      intro q hq
      simp only [List.mem_cons, List.not_mem_nil, or_false] at hq
      subst hq
      refine wpOp_step rfl (fun K hK => ?_)
      refine opAppB _ _ rfl B (.slice ob L.length cb) L rfl HOa.out [⟨n, l, d⟩] ⟨x3.heap.size, 0, none⟩ 1 1 rfl rfl ?_ (by simp; omega) (by omega) ?_
      · intro j u hj
        rw [Addr.add_lit, Nat.zero_add]
        have hh := tri_cells hna
        match j, hj with
        | 0, hj => cases hj; exact hh.1
        | 1, hj => cases hj; exact hh.2.1
        | 2, hj => cases hj; exact hh.2.2
      intro v5 w5 hown5 hg5
      have hb5 : Below B (x3.alloc (.cells #[.string n, .string l, .string d] 35)) w5 := ⟨hg5.os, hg5.tape, hg5.output, hg5.size, fun k hk => hg5.block k (by omega) (fun e => by have := (World.ownsRow.lt HOa.out k e.symm).1; omega)⟩
      have Hb5 := mkHid (((Hb.out.trans (HB0.out.mono (by omega))).trans (ha.mono (by omega))).trans hb5)
      have hS5 : w5.cell? ⟨wr.heap.size, 0, none⟩ = some (.string n) ∧ w5.cell? ⟨wr.heap.size, 1, none⟩ = some (.string l) ∧ w5.cell? ⟨wr.heap.size, 2, none⟩ = some (.string d) := by
        obtain ⟨t0, t1, t2⟩ := HS.out _ ha
        have kk : ∀ q, w5.cell? ⟨wr.heap.size, q, none⟩ = (x3.alloc (.cells #[.string n, .string l, .string d] 35)).cell? ⟨wr.heap.size, q, none⟩ := fun q => by
          have hb := hg5.block wr.heap.size (by omega) (fun e => by have := (World.ownsRow.lt HO.out wr.heap.size e.symm).2; omega)
          simp only [World.cell?, hb]
        exact ⟨(kk 0).trans t0, (kk 1).trans t1, (kk 2).trans t2⟩
      refine hK _ _ ⟨hS5, ?_⟩
      clear hK K
      go_simp
      refine wpAnyH_take (i := 13) (v := v5) rfl (by kernel_rfl) (by kernel_rfl) (by kernel_rfl) (fun _ _ _ h => h) (Or.inl ⟨by rfl, ?_⟩) (hS5) ?_
      · rintro w ⟨s1, s2, s3⟩
        go_simp
      go_simp
      refine wpAnyH_done (by kernel_rfl) ?_ _
      clear hS5 HS HO HO1 HOa ha hna
      go_wp2
      go_roundw
      case rel => exact ⟨i + 1, by go_num, by omega, mkHid (by rw [Hsn.out]; exact hown5), Hb5, mkHid (fun h => by omega)⟩
      case measure => simp [Lib.intOf]; omega
    · have e : C ++ M.take i = C ++ M := by rw [List.take_of_length_le (by omega)]
      rw [e] at HO ⊢
      go_wp2
      go_ret
      exact ⟨_, rfl, HO.out, Hb.out⟩
end Go.Proofs.YtadoifnfgoonaaaGreatDoor
namespace Go.Proofs.YtadoifnfgoonaaaGreatDoor
open Go.RowKit Go.Lib
set_option maxRecDepth 20000 in
set_option maxHeartbeats 8000000 in
theorem implBoxes (oo : Option Addr) (cc : Nat) (E : List En) (w : World) (hE : EnsAt w.heap.size oo E w) (hl : E.length ≤ 1000) (hsm : ∀ e ∈ E, e.sm) (hc : cntS E ≤ 499) :
    Calls Tryz.prog 11 #[.slice oo E.length cc] w fun r w' => ∃ v, r = .returned v ∧ OwnB w.heap.size v (bxsOf E) w' ∧ Below w.heap.size w w' := by
  have HE := mkHid hE
  have Hm := mkHid hsm
  rw [← bxsOf_len] at hc
  clear hE hsm
  go_enter Tryz.func11, Tryz.ntmps11
  go_wp2
  go_loopw [3, 5, 8] (fun v _ iv wr => ∃ i : Nat, iv = .int .i64 i ∧ i ≤ E.length ∧ Hid (OwnB w.heap.size v (bxsOf (E.take i)) wr) ∧ Hid (Below w.heap.size w wr)) (fun _ _ iv _ => E.length - (Lib.intOf iv).toNat)
  case atStart => exact ⟨0, rfl, Nat.zero_le _, mkHid (OwnB.nil _ _), mkHid (Below.refl _ _)⟩
  case round =>
    obtain ⟨i, rfl, hi, HO, Hb⟩ := hrel
    obtain ⟨ob, cb, rfl⟩ := HO.out.shape
    have hsz : w.heap.size ≤ wr.heap.size := Hb.out.size
    by_cases hlt : i < E.length
    · obtain ⟨gA, va, vca, hgA, rfl, ⟨a0, a1, a2, a3, a4, a5⟩, hMa, hvca⟩ := (HE.out.keep Hb.out) i hlt
      have hme := Hm.out E[i] (List.getElem_mem hlt)
      have Hsn := mkHid (bxsOf_snoc E i hlt)
      have hsl := bxsOf_take_len E (i + 1)
      rw [Hsn.out, List.length_append] at hsl
      generalize E[i] = q at a0 a1 a2 a3 a4 a5 hMa hme Hsn hsl hvca
      obtain ⟨grp, nm, n, l, d, M⟩ := q
      obtain ⟨e1, e2, e3, e4⟩ := hme
      have e1 : nm.size ≤ 1000 := e1
      have e2 : n.size ≤ 1000 ∧ l.size ≤ 1000 ∧ d.size ≤ 1000 := e2
      have e3 : M.length ≤ 100 := e3
      have e4 : ∀ b ∈ M, b.sm := e4
      have hMa : MemAt w.heap.size va M wr := hMa
      have hvca : M.length ≤ vca := hvca
      have a0 : wr.cell? ⟨gA, i * 6, none⟩ = some (.bool grp) := a0
      have a1 : wr.cell? ⟨gA, i * 6 + 1, none⟩ = some (.string nm) := a1
      have a2 : wr.cell? ⟨gA, i * 6 + 2, none⟩ = some (.string n) := a2
      have a3 : wr.cell? ⟨gA, i * 6 + 3, none⟩ = some (.string l) := a3
      have a4 : wr.cell? ⟨gA, i * 6 + 4, none⟩ = some (.string d) := a4
      have a5 : wr.cell? ⟨gA, i * 6 + 5, none⟩ = some (.slice va M.length vca) := a5
      generalize hL : bxsOf (E.take i) = L at *
      clear hL
      obtain ⟨W0, hW0⟩ : ∃ W0, W0 = wr.alloc (.cells #[.bool grp, .string nm, .string n, .string l, .string d, .slice va M.length vca] 37) := ⟨_, rfl⟩
      have hN0 : W0.heap[wr.heap.size]? = some (.cells #[.bool grp, .string nm, .string n, .string l, .string d, .slice va M.length vca] 37 (0, 0)) := by rw [hW0]; exact hp_alloc _ _
      have hB0 : Below wr.heap.size wr W0 := by rw [hW0]; exact (Below.refl _ _).alloc (Nat.le_refl _) _
      have hs0 : W0.heap.size = wr.heap.size + 1 := by rw [hW0, World.size_alloc]
      have HC : Hid (∀ V, Below W0.heap.size W0 V → V.cell? ⟨wr.heap.size, 0, none⟩ = some (.bool grp) ∧ V.cell? ⟨wr.heap.size, 1, none⟩ = some (.string nm) ∧ V.cell? ⟨wr.heap.size, 2, none⟩ = some (.string n) ∧ V.cell? ⟨wr.heap.size, 3, none⟩ = some (.string l) ∧ V.cell? ⟨wr.heap.size, 4, none⟩ = some (.string d) ∧ V.cell? ⟨wr.heap.size, 5, none⟩ = some (.slice va M.length vca)) := mkHid (fun V hV => by
        obtain ⟨t0, t1, t2, t3, t4, t5⟩ := entry_cells (e := ⟨grp, nm, n, l, d, M⟩) hN0
        have kk : ∀ q, V.cell? ⟨wr.heap.size, q, none⟩ = W0.cell? ⟨wr.heap.size, q, none⟩ := fun q => hV.cell (p := ⟨wr.heap.size, q, none⟩) (show wr.heap.size < _ by omega)
        exact ⟨(kk _).trans t0, (kk _).trans t1, (kk _).trans t2, (kk _).trans t3, (kk _).trans t4, (kk _).trans t5⟩)
      have HM0 := mkHid (hMa.keep (hB0.mono hsz))
      have HO0 := mkHid (HO.out.below hB0)
      have Hb0 := mkHid (Hb.out.trans (hB0.mono hsz))
      have HW0 := mkHid hW0
      have ct := mkHid (fun V => implTooLongB nm V (by omega))
      have cl := mkHid (implHasLong ⟨n, l, d⟩ W0 e2)
      have hsz0 : w.heap.size ≤ W0.heap.size := by omega
      clear hW0 hN0 hB0 hMa HO Hb
      obtain ⟨k0, k1, k2, k3, k4, k5⟩ := HC.out W0 (Below.refl _ _)
      rw [HW0.out] at k0 k1 k2 k3 k4 k5
      have E4 := mkHid e4
      clear e4
      go_wp2_with fail
      refine (ct.out _).mono ?_
      rintro e W1 ⟨rfl, rfl⟩
      clear ct
      rw [← HW0.out] at k0 k1 k2 k3 k4 k5 ⊢
      go_wp2_with fail
      refine cl.out.mono ?_
      rintro e W1 ⟨rfl, hb1⟩
      have HM1 := mkHid (HM0.out.keep (hb1.mono hsz0))
      have HO1 := mkHid (HO0.out.below hb1)
      have Hb1 := mkHid (Hb0.out.trans (hb1.mono hsz0))
      have hsz1 : w.heap.size ≤ W1.heap.size := Hb1.out.size
      have HB1 := mkHid hb1
      clear cl HM0 HO0 Hb0 hb1 k0 k1 k2 k3 k4 k5
      obtain ⟨k0, k1, k2, k3, k4, k5⟩ := HC.out W1 HB1.out
      have cc' := mkHid (implContainsLong w.heap.size va M vca W1 HM1.out hsz1 (by omega) E4.out)
      go_wp2_with fail
      refine cc'.out.mono ?_
      rintro e W2 ⟨rfl, hb2⟩
      have HM2 := mkHid (HM1.out.keep (hb2.mono hsz1))
      have HO2 := mkHid (HO1.out.below hb2)
      have Hb2 := mkHid (Hb1.out.trans (hb2.mono hsz1))
      have hsz2 : w.heap.size ≤ W2.heap.size := Hb2.out.size
      have HB2 := mkHid (HB1.out.trans (hb2.mono HB1.out.size))
      clear cc' HM1 HO1 Hb1 HB1 hb2 k0 k1 k2 k3 k4 k5
      obtain ⟨k0, k1, k2, k3, k4, k5⟩ := HC.out W2 HB2.out
      cases grp with
      | false =>
        have hsl : L.length + 1 ≤ (bxsOf E).length := hsl
        obtain ⟨W3, hW3⟩ : ∃ W3, W3 = W2.alloc (.cells #[.string n, .string l, .string d] 35) := ⟨_, rfl⟩
        have hN3 : W3.heap[W2.heap.size]? = some (.cells #[.string n, .string l, .string d] 35 (0, 0)) := by rw [hW3]; exact hp_alloc _ _
        have hB3 : Below W2.heap.size W2 W3 := by rw [hW3]; exact (Below.refl _ _).alloc (Nat.le_refl _) _
        have hs3 : W3.heap.size = W2.heap.size + 1 := by rw [hW3, World.size_alloc]
        have ca := mkHid (implAppendBoxes w.heap.size ob cb L (some ⟨W2.heap.size, 0, none⟩) 1 [⟨n, l, d⟩] W3 (HO2.out.below hB3) (fun j hj => by
          obtain rfl : j = 0 := by simp at hj; omega
          obtain ⟨t0, t1, t2⟩ := tri_cells hN3
          exact ⟨W2.heap.size, by omega, rfl, t0, t1, t2⟩) (.inl (Nat.le_refl _)) (by omega) (by simp; omega) (Nat.le_refl _) (fun b hb => by rw [List.mem_singleton.1 hb]; exact e2))
        have Hb3 := mkHid (Hb2.out.trans (hB3.mono hsz2))
        rw [hW3] at ca Hb3
        clear hW3 hN3 hB3 hs3 HO2 HM2
        go_wp2_with fail
        refine ca.out.mono ?_
        rintro e W4 ⟨v4, rfl, hO4, hb4⟩
        have HO4 := mkHid hO4
        have Hb4 := mkHid (Hb3.out.trans hb4)
        clear ca hO4 hb4 Hb3 k0 k1 k2 k3 k4 k5
        go_wp2
        go_roundw
        case rel => exact ⟨i + 1, by go_num, by omega, mkHid (by rw [Hsn.out]; exact HO4.out), Hb4⟩
        case measure => simp [Lib.intOf]; omega
      | true =>
        have hsl : L.length + M.length ≤ (bxsOf E).length := hsl
        have ca := mkHid (implAppendBoxes w.heap.size ob cb L va vca M W2 HO2.out (HM2.out.mono hsz2) (.inr HM2.out) hsz2 (by omega) hvca E4.out)
        clear HO2 HM2
        go_wp2_with fail
        refine ca.out.mono ?_
        rintro e W4 ⟨v4, rfl, hO4, hb4⟩
        have HO4 := mkHid hO4
        have Hb4 := mkHid (Hb2.out.trans hb4)
        clear ca hO4 hb4 Hb2 k0 k1 k2 k3 k4 k5
        go_wp2
        go_roundw
        case rel => exact ⟨i + 1, by go_num, by omega, mkHid (by rw [Hsn.out]; exact HO4.out), Hb4⟩
        case measure => simp [Lib.intOf]; omega
    · have e : bxsOf (E.take i) = bxsOf E := by rw [List.take_of_length_le (by omega)]
      rw [e] at HO ⊢
      go_wp2
      go_ret
      exact ⟨_, rfl, HO.out, Hb.out⟩
end Go.Proofs.YtadoifnfgoonaaaGreatDoor
