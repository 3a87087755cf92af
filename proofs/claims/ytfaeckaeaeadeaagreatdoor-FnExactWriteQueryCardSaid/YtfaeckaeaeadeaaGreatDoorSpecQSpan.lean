
/- Where the nodes of a query below one begin: the specification's recursion; QueryFault. -/
import Derived.Test.YtfaeckaeaeadeaaGreatDoorSpecQRight
import Derived.Test.YtfaeckaeaeadeaaGreatDoorTreeMore
namespace Go.Proofs.YtfaeckaeaeadeaaGreatDoor
open Go.RowKit Go.Lib Go.Maps
namespace Tr
set_option maxRecDepth 20000 in
theorem fo_mem {ok : Nat → Bool} {kids : Nat → List Int} {d lo hi : Nat} {ks : List Int} (h : Fo ok kids d lo hi ks) : lo ≤ hi ∧ ∀ k ∈ ks, 0 ≤ k ∧ k < (hi : Int) := by
  induction h with
  | nil d a => exact ⟨Nat.le_refl _, fun k hk => by cases hk⟩
  | snoc d lo m k ks _ _ _ ih1 ih2 =>
    obtain ⟨a1, a2⟩ := ih1
    obtain ⟨b1, -⟩ := ih2
    refine ⟨by omega, fun j hj => ?_⟩
    rcases List.mem_append.1 hj with hj | hj
    · have := a2 j hj; omega
    · obtain rfl : j = (k : Int) := by simpa using hj
      omega
set_option maxRecDepth 20000 in
theorem span_le {ok : Nat → Bool} {kids : Nat → List Int} (f i s : Nat) (h : span ok kids f i = some s) : s ≤ i := by
  obtain ⟨-, d, -, h2⟩ := span_fo f i s h
  exact (fo_mem h2).1
set_option maxRecDepth 20000 in
theorem down_mem {ok : Nat → Bool} {kids : Nat → List Int} (f : Nat) (ks : List Int) (e s : Nat) (h : down (span ok kids f) ks.reverse e = some s) : ∀ k ∈ ks, 0 ≤ k ∧ k < (e : Int) := by
  have := down_fo f (span_fo f) _ _ _ h
  rw [List.reverse_reverse] at this
  exact (fo_mem this).2
def spV : Option Nat → Int
  | none => -1
  | some s => s
end Tr
set_option maxRecDepth 20000 in
theorem wrap_inQ (n : Int) (h0 : -9223372036854775808 ≤ n) (h1 : n ≤ 9223372036854775807) : IntKind.i64.wrap n = n := by
  simp only [IntKind.wrap, IntKind.bits, IntKind.signed, Bool.true_and]
  split <;> rename_i h <;> simp at h <;> omega
namespace Qu
def kids (F : List GQueryNode) (i : Nat) : List Int := (F[i]?.map (·.kids)).getD []
def ok (F : List GQueryNode) (i : Nat) : Bool := (F[i]?.map right).getD false
def good (F : List GQueryNode) : Bool := decide (1 ≤ F.length) && (decide (F.length ≤ 100) && (Tr.span (ok F) (kids F) 10 (F.length - 1) == some 0))
end Qu
def plQueryFault (F : List GQueryNode) : Int := St.code (Qu.good F)
set_option maxHeartbeats 4000000 in
set_option maxRecDepth 20000 in
theorem specQSpan (o : Option Addr) (F : List GQueryNode) (cap lo : Nat) (hlF : F.length ≤ 1048576) (hfit : ∀ n ∈ F, n.fits 1048576) (f : Nat) : ∀ (deep i : Nat) (w : World), f + deep = 11 → i < F.length → GQueryNodesL lo w.heap.size w o F →
    Calls Tryz.prog 20 #[.slice o F.length cap, .int .i64 i, .int .i64 deep] w fun e w' => e = .returned (.int .i64 (Tr.spV (Tr.span (Qu.ok F) (Qu.kids F) f i))) ∧ Below w.heap.size w w' := by
  induction f with
  | zero =>
    intro deep i w hd hi hF
    obtain ⟨a, v4, v5, rfl, ha1, ha, hA, hI⟩ := hF i hi
    obtain ⟨⟨a4, c4', rfl, -⟩, ⟨a5, c5', rfl, -⟩⟩ := hI
    have c0 := hA.c0
    have c1 := hA.c1
    have c2 := hA.c2
    have c3 := hA.c3
    have c4 := hA.c4
    have c5 := hA.c5
    have hd' : decide ((10 : Int) < (deep : Int)) = true := by simp; omega
    clear hA hF
    generalize F[i] = n at *
    go_enter Tryz.func20, Tryz.ntmps20
    go_wp2
    go_ret
    exact ⟨rfl, (Below.refl _ _).alloc (Nat.le_refl _) _⟩
  | succ f ih =>
    intro deep i w hd hi hF
    have hF0 := mkHid hF
    obtain ⟨a, v4, v5, rfl, ha1, ha, hA, hI⟩ := hF i hi
    have hI0 := mkHid hI
    obtain ⟨⟨a4, c4', rfl, -⟩, ⟨a5, c5', rfl, t3⟩⟩ := hI
    have c0 := hA.c0
    have c1 := hA.c1
    have c2 := hA.c2
    have c3 := hA.c3
    have c4 := hA.c4
    have c5 := hA.c5
    have hd' : decide ((10 : Int) < (deep : Int)) = false := by simp; omega
    have hnf := hfit F[i] (List.getElem_mem hi)
    have hres : Hid (Tr.span (Qu.ok F) (Qu.kids F) (f + 1) i = if Qu.right F[i] = true then Tr.down (Tr.span (Qu.ok F) (Qu.kids F) f) F[i].kids.reverse i else none) := by
      show Tr.span _ _ (f + 1) i = _
      unfold Tr.span Qu.ok Qu.kids
      rw [List.getElem?_eq_getElem hi]
      rfl
    rw [hres.out]
    obtain ⟨Z, hZ⟩ : ∃ Z, Tr.spV (if Qu.right F[i] = true then Tr.down (Tr.span (Qu.ok F) (Qu.kids F) f) F[i].kids.reverse i else none) = Z := ⟨_, rfl⟩
    rw [hZ]
    replace hZ := mkHid hZ
    replace t3 := mkHid t3
    clear hA hF hres
    generalize F[i] = n at *
    obtain ⟨W, hW⟩ : ∃ W, W = w.alloc (.cells #[.int .i64 n.kind, .string n.name, .string n.text, .int .i64 n.num, .slice a4 n.uids.length c4', .slice a5 n.kids.length c5'] 38) := ⟨_, rfl⟩
    have hbW : Below w.heap.size w W := by rw [hW]; exact (Below.refl _ _).alloc (Nat.le_refl _) _
    have hWs : W.heap.size = w.heap.size + 1 := by rw [hW]; simp
    have hB : W.heap[w.heap.size]? = some (.cells #[.int .i64 n.kind, .string n.name, .string n.text, .int .i64 n.num, .slice a4 n.uids.length c4', .slice a5 n.kids.length c5'] 38 (0, 0)) := by rw [hW]; exact heap_alloc_at _ _
    have hFl := mkHid (specQRight n _ _ lo W ((hI0.out.same (Same.of_below hbW (Nat.le_refl _))).mono (Nat.le_refl _) hbW.size) hnf)
    replace hW := mkHid hW
    go_enter Tryz.func20, Tryz.ntmps20
    unfold GQueryNodeV at hFl
    go_wp2_with fail
    rw [← hW.out]
    refine hFl.out.mono ?_
    rintro e w1 ⟨rfl, hb1⟩
    have hs1 := hb1.size
    have hB1 := (hb1.block w.heap.size (by omega)).trans hB
    have hbw1 : Below w.heap.size w w1 := hbW.trans (hb1.mono hbW.size)
    clear hFl hB hb1 hW c0 c1 c2 c3 c4 c5
    cases hfo : Qu.right n
    · have hz : Hid (Z = -1) := by
        show Z = -1
        rw [← hZ.out, hfo]
        rfl
      clear hfo
      go_wp2
      go_ret
      rw [hz.out]
      exact ⟨rfl, hbw1⟩
    · obtain ⟨R, hR⟩ : ∃ R, Tr.down (Tr.span (Qu.ok F) (Qu.kids F) f) n.kids.reverse i = R := ⟨_, rfl⟩
      have hzn : Hid (R = none → Z = -1) := by
        intro h
        rw [← hZ.out, hR, h, hfo]
        rfl
      have hzs : Hid (∀ s, R = some s → Z = (s : Int)) := by
        intro s h
        rw [← hZ.out, hR, h, hfo]
        rfl
      have HR := mkHid hR
      have q6 : w1.cell? ⟨w.heap.size, 5, none⟩ = some (.slice a5 n.kids.length c5') := by simp [World.cell?, hB1]
      clear hfo hR hZ
      replace hB1 := mkHid hB1
      replace hbw1 := mkHid hbw1
      have hnl := hnf.2.2.2.2
      go_wp2
      go_loopw [8, 9] (fun ev kv wr => ∃ (c x : Nat) (ez kz : Int), ev = .int .i64 ez ∧ ez + 1 = (x : Int) ∧ kv = .int .i64 kz ∧ kz + 1 = (c : Int) ∧ c ≤ n.kids.length ∧ x ≤ i ∧ Hid (Tr.down (Tr.span (Qu.ok F) (Qu.kids F) f) (n.kids.take c).reverse x = R) ∧ Hid (wr.heap[w.heap.size]? = some (.cells #[.int .i64 n.kind, .string n.name, .string n.text, .int .i64 n.num, .slice a4 n.uids.length c4', .slice a5 n.kids.length c5'] 38 (0, 0))) ∧ Hid (Below w.heap.size w wr)) (fun _ kv _ => (Lib.intOf kv + 1).toNat)
      case atStart =>
        exact ⟨n.kids.length, i, (i : Int) - 1, (n.kids.length : Int) - 1, by go_num, by omega, by go_num, by omega, Nat.le_refl _, Nat.le_refl _, by show _ = _; rw [List.take_length]; exact HR.out, hB1, hbw1⟩
      case round =>
        clear q6 hB1 hbw1 HR
        obtain ⟨c, x, ez, kz, rfl, hez, rfl, hkz, hc, hx, hdn, hBr, hbr⟩ := hrel
        have q6 : wr.cell? ⟨w.heap.size, 5, none⟩ = some (.slice a5 n.kids.length c5') := by simp [World.cell?, hBr.out]
        have hszr := hbr.out.size
        rcases Nat.eq_zero_or_pos c with hc0 | hc0
        · subst hc0
          obtain rfl : kz = -1 := by omega
          have hRs : R = some x := hdn.out.symm
          have hzz := mkHid (hzs.out x hRs)
          clear hBr hdn hRs hzn hzs
          go_wp2
          go_ret
          rw [hzz.out]
          exact ⟨by congr 2, hbr.out⟩
        · obtain ⟨c', rfl⟩ : ∃ c', c = c' + 1 := ⟨c - 1, by omega⟩
          obtain rfl : kz = (c' : Int) := by omega
          have hlt : c' < n.kids.length := by omega
          obtain ⟨b, rfl, hb0, hbb, ck⟩ := (t3.out.below hbr.out (Nat.le_refl _)) c' hlt
          have hstep : Hid (R = if 0 ≤ n.kids[c'] ∧ n.kids[c'] + 1 = (x : Int) then (match Tr.span (Qu.ok F) (Qu.kids F) f (x - 1) with | some s => Tr.down (Tr.span (Qu.ok F) (Qu.kids F) f) (n.kids.take c').reverse s | none => none) else none) := by
            show R = _
            rw [← hdn.out, List.take_succ_eq_append_getElem hlt, List.reverse_append, List.reverse_singleton, List.singleton_append]
            rfl
          clear hdn
          generalize n.kids[c'] = kc at *
          by_cases hkc : kc = ez
          · have hb1 : (kc == ez) = true := by simpa using hkc
            have hb1' : (kc != ez) = false := by simp [hkc]
            by_cases he0 : ez < 0
            · have hz := mkHid (hzn.out (by rw [hstep.out, if_neg (by omega)]))
              have hb2 : decide (ez < 0) = true := by simpa using he0
              clear hkc hstep hzn hzs
              go_wp2_with fail
              go_ret
              rw [hz.out]
              exact ⟨rfl, hbr.out⟩
            · obtain ⟨q, rfl⟩ : ∃ q : Nat, ez = (q : Int) := ⟨ez.toNat, by omega⟩
              obtain rfl : x = q + 1 := by omega
              have hb2 : decide ((q : Int) < 0) = false := by simp
              have hsp := hstep.out
              rw [if_pos (by omega), show q + 1 - 1 = q by omega] at hsp
              have hC := mkHid (ih (deep + 1) q wr (by omega) (by omega) ((hF0.out.below hbr.out (Nat.le_refl _)).mono (Nat.le_refl _) hszr))
              rw [show (((deep + 1 : Nat)) : Int) = (deep : Int) + 1 by omega] at hC
              cases hs : Tr.span (Qu.ok F) (Qu.kids F) f q with
              | none =>
                rw [hs] at hsp hC
                have hz := mkHid (hzn.out hsp)
                clear hkc hstep hzn hzs hsp hs
                go_wp2_with fail
                refine hC.out.mono ?_
                rintro e w5 ⟨rfl, hb5⟩
                have hfin := mkHid (hbr.out.trans (hb5.mono hszr))
                clear hC hb5
                unfold Tr.spV
                go_wp2_with fail
                go_ret
                rw [hz.out]
                exact ⟨rfl, hfin.out⟩
              | some s =>
                have hsl := Tr.span_le f q s hs
                rw [hs] at hsp hC
                clear hkc hstep hzn hzs hs
                replace hsp := mkHid hsp
                go_wp2_with fail
                refine hC.out.mono ?_
                rintro e w5 ⟨rfl, hb5⟩
                have hfin := mkHid (hbr.out.trans (hb5.mono hszr))
                have hB5 := mkHid ((hb5.block w.heap.size (by have := hBr.out; rw [Array.getElem?_eq_some_iff] at this; exact this.1)).trans hBr.out)
                clear hC hb5
                have hs1 : decide ((s : Int) - 1 < -1) = false := by simp; omega
                unfold Tr.spV
                go_wp2_with fail
                go_roundw
                case rel => exact ⟨c', s, (s : Int) - 1, (c' : Int) - 1, by go_num, by omega, by go_num, by omega, by omega, by omega, hsp.out.symm, hB5, hfin⟩
                case measure => simp [Lib.intOf]
          · have hz := mkHid (hzn.out (by rw [hstep.out, if_neg (by omega)]))
            have hb1 : (kc == ez) = false := by simpa using hkc
            have hb1' : (kc != ez) = true := by simpa using hkc
            clear hkc hstep hzn hzs
            go_wp2_with fail
            go_ret
            rw [hz.out]
            exact ⟨rfl, hbr.out⟩
set_option maxRecDepth 20000 in
set_option maxHeartbeats 1000000 in
theorem specQueryFault (o : Option Addr) (F : List GQueryNode) (cap lo : Nat) (w : World) (hF : GQueryNodesL lo w.heap.size w o F) (hl : F.length ≤ 1048576) (hf : ∀ f ∈ F, f.fits 1048576) :
    Calls Tryz.prog 10 #[.slice o F.length cap] w fun e w' => e = .returned (.int .i64 (plQueryFault F)) ∧ Below w.heap.size w w' := by
  unfold plQueryFault Qu.good
  by_cases h1 : 1 ≤ F.length
  · have x1 : decide ((F.length : Int) < 1) = false := decide_eq_false (by omega)
    by_cases h2 : F.length ≤ 100
    · have x2 : decide ((100 : Int) < (F.length : Int)) = false := decide_eq_false (by omega)
      rw [decide_eq_true h1, decide_eq_true h2, Bool.true_and, Bool.true_and]
      have cS := mkHid (specQSpan o F cap lo hl hf 10 1 (F.length - 1) w rfl (by omega) hF)
      rw [show ((F.length - 1 : Nat) : Int) = (F.length : Int) - 1 by omega] at cS
      obtain ⟨s, hs⟩ : ∃ s, Tr.span (Qu.ok F) (Qu.kids F) 10 (F.length - 1) = s := ⟨_, rfl⟩
      rw [hs] at cS ⊢
      have hsz : (Tr.spV s != 0) = !(s == some 0) := by
        cases s with
        | none => rfl
        | some k =>
          rw [Bool.eq_iff_iff]
          simp [Tr.spV]
      have hwr : IntKind.i64.wrap ((F.length : Int) - 1) = (F.length : Int) - 1 := wrap_inQ _ (by omega) (by omega)
      clear hF hf hs
      generalize Tr.spV s = z at *
      generalize (s == some 0) = b at *
      go_enter Tryz.func10, Tryz.ntmps10
      go_wp2_with fail
      refine cS.out.mono ?_
      rintro e w1 ⟨rfl, hb⟩
      clear cS
      cases b
      · go_wp2
        go_ret
        exact ⟨rfl, hb⟩
      · go_wp2
        go_ret
        exact ⟨rfl, hb⟩
    · have x2 : decide ((100 : Int) < (F.length : Int)) = true := decide_eq_true (by omega)
      rw [decide_eq_false h2, Bool.false_and, Bool.and_false]
      clear hF hf
      go_enter Tryz.func10, Tryz.ntmps10
      go_wp2
      go_ret
      exact ⟨rfl, Below.refl _ _⟩
  · have x1 : decide ((F.length : Int) < 1) = true := decide_eq_true (by omega)
    rw [decide_eq_false h1, Bool.false_and]
    clear hF hf
    go_enter Tryz.func10, Tryz.ntmps10
    go_wp2
    go_ret
    exact ⟨rfl, Below.refl _ _⟩
end Go.Proofs.YtfaeckaeaeadeaaGreatDoor
