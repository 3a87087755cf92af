
/- Where the nodes below one begin: the specification's recursion. -/
import Derived.Test.YtmpakfpmcohcgaaNodeKids
import Derived.Test.YtmpakfpmcohcgaaTreePlain
namespace Go.Proofs.Ytmpakfpmcohcgaa
open Go.RowKit Go.Lib Go.Maps
namespace Tr
theorem fo_mem {ok : Nat → Bool} {kids : Nat → List Int} {d lo hi : Nat} {ks : List Int} (h : Fo ok kids d lo hi ks) : lo ≤ hi ∧ ∀ k ∈ ks, 0 ≤ k ∧ k < (hi : Int) := by
  induction h with
  | nil d a => exact ⟨Nat.le_refl _, fun k hk => by cases hk⟩
  | snoc d lo m k ks _ _ _ ih1 ih2 =>
    obtain ⟨a1, a2⟩ := ih1
    obtain ⟨b1, -⟩ := ih2
    refine ⟨by omega, fun j hj => ?_⟩
    rcases List.mem_append.1 hj with hj | hj
    · have := a2 j hj; omega
    · obtain rfl : j = (k : Int) := by simpa using hj
      omega
theorem span_le {ok : Nat → Bool} {kids : Nat → List Int} (f i s : Nat) (h : span ok kids f i = some s) : s ≤ i := by
  obtain ⟨-, d, -, h2⟩ := span_fo f i s h
  exact (fo_mem h2).1
theorem down_mem {ok : Nat → Bool} {kids : Nat → List Int} (f : Nat) (ks : List Int) (e s : Nat) (h : down (span ok kids f) ks.reverse e = some s) : ∀ k ∈ ks, 0 ≤ k ∧ k < (e : Int) := by
  have := down_fo f (span_fo f) _ _ _ h
  rw [List.reverse_reverse] at this
  exact (fo_mem this).2
def spV : Option Nat → Int
  | none => -1
  | some s => s
end Tr
namespace Fn
def kindAt (F : List Nd) (k : Int) : Int := (F[k.toNat]?.map (·.kind)).getD 0
def kids (F : List Nd) (i : Nat) : List Int := (F[i]?.map (·.kids)).getD []
def ok (F : List Nd) (i : Nat) : Bool := (F[i]?.map fun n => fieldsOk n && kidsOk n.kind (n.kids.map (kindAt F))).getD false
end Fn
set_option maxHeartbeats 4000000 in
set_option maxRecDepth 20000 in
theorem specSpan (o : Option Addr) (F : List Nd) (cap : Nat) (hlF : F.length ≤ 1048576) (hfit : ∀ n ∈ F, n.fits 1048576) (f : Nat) : ∀ (deep i : Nat) (w : World), f + deep = 21 → i < F.length → Nds w.heap.size w o F →
    Calls Try.prog 10 #[.slice o F.length cap, .int .i64 i, .int .i64 deep] w fun e w' => e = .returned (.int .i64 (Tr.spV (Tr.span (Fn.ok F) (Fn.kids F) f i))) ∧ Below w.heap.size w w' := by
  induction f with
  | zero =>
    intro deep i w hd hi hF
    obtain ⟨a, vn, vk, vd, rfl, ha, hA, hI⟩ := hF i hi
    have hI0 := mkH hI
    obtain ⟨⟨a1, e1, rfl, -⟩, ⟨a2, e2, rfl, -⟩, ⟨a3, e3, rfl, t3⟩⟩ := hI
    have c0 := hA.c0
    have c1 := hA.c1
    have c2 := hA.c2
    have c3 := hA.c3
    have c4 := hA.c4
    have c5 := hA.c5
    have c6 := hA.c6
    have hd' : decide ((20 : Int) < (deep : Int)) = true := by simp; omega
    clear hA hF hI0 t3
    generalize F[i] = n at *
    go_enter Try.func10, Try.ntmps10
    go_wp2
    go_ret
    exact ⟨rfl, (Below.refl _ _).alloc (Nat.le_refl _) _⟩
  | succ f ih =>
    intro deep i w hd hi hF
    have hF0 := mkH hF
    obtain ⟨a, vn, vk, vd, rfl, ha, hA, hI⟩ := hF i hi
    have hI0 := mkH hI
    obtain ⟨⟨a1, e1, rfl, -⟩, ⟨a2, e2, rfl, -⟩, ⟨a3, e3, rfl, t3⟩⟩ := hI
    have c0 := hA.c0
    have c1 := hA.c1
    have c2 := hA.c2
    have c3 := hA.c3
    have c4 := hA.c4
    have c5 := hA.c5
    have c6 := hA.c6
    have hd' : decide ((20 : Int) < (deep : Int)) = false := by simp; omega
    have hnf := hfit F[i] (List.getElem_mem hi)
    have hres : Hid (Tr.span (Fn.ok F) (Fn.kids F) (f + 1) i = if (Fn.fieldsOk F[i] && Fn.kidsOk F[i].kind (F[i].kids.map (Fn.kindAt F))) = true then Tr.down (Tr.span (Fn.ok F) (Fn.kids F) f) F[i].kids.reverse i else none) := by
      show Tr.span _ _ (f + 1) i = _
      unfold Tr.span Fn.ok Fn.kids
      rw [List.getElem?_eq_getElem hi]
      rfl
    rw [hres.out]
    obtain ⟨Z, hZ⟩ : ∃ Z, Tr.spV (if (Fn.fieldsOk F[i] && Fn.kidsOk F[i].kind (F[i].kids.map (Fn.kindAt F))) = true then Tr.down (Tr.span (Fn.ok F) (Fn.kids F) f) F[i].kids.reverse i else none) = Z := ⟨_, rfl⟩
    rw [hZ]
    replace hZ := mkH hZ
    replace t3 := mkH t3
    clear hA hF hres
    generalize F[i] = n at *
    obtain ⟨W, hW⟩ : ∃ W, W = w.alloc (.cells #[.int .i64 n.kind, .int .i64 n.num, .int .i64 n.mat, .string n.text, .slice a1 n.names.length e1, .slice a2 n.keys.length e2, .slice a3 n.kids.length e3] 34) := ⟨_, rfl⟩
    have hbW : Below w.heap.size w W := by rw [hW]; exact (Below.refl _ _).alloc (Nat.le_refl _) _
    have hWs : W.heap.size = w.heap.size + 1 := by rw [hW]; simp
    have hB : W.heap[w.heap.size]? = some (.cells #[.int .i64 n.kind, .int .i64 n.num, .int .i64 n.mat, .string n.text, .slice a1 n.names.length e1, .slice a2 n.keys.length e2, .slice a3 n.kids.length e3] 34 (0, 0)) := by rw [hW]; exact hp_allocN _ _
    have hFl := mkH (specFields n (.slice a1 n.names.length e1) (.slice a2 n.keys.length e2) (.slice a3 n.kids.length e3) W ((hI0.out.below hbW).mono hbW.size) hnf)
    replace hW := mkH hW
    go_enter Try.func10, Try.ntmps10
    unfold ndV at hFl
    go_wp2_with fail
    rw [← hW.out]
    refine hFl.out.mono ?_
    rintro e w1 ⟨rfl, hb1⟩
    have hs1 := hb1.size
    have hB1 := (hb1.block w.heap.size (by omega)).trans hB
    have hbw1 : Below w.heap.size w w1 := hbW.trans (hb1.mono hbW.size)
    have hbv1 : Below (w.heap.size + 1) w1 w1 := Below.refl _ _
    clear hFl hB hb1 hW c0 c1 c2 c3 c4 c5 c6
    cases hfo : Fn.fieldsOk n
    · have hz : Hid (Z = -1) := by
        show Z = -1
        rw [← hZ.out, hfo]
        rfl
      clear hfo
      go_wp2
      go_ret
      rw [hz.out]
      exact ⟨rfl, hbw1⟩
    · obtain ⟨R, hR⟩ : ∃ R, Tr.down (Tr.span (Fn.ok F) (Fn.kids F) f) n.kids.reverse i = R := ⟨_, rfl⟩
      have hzn : Hid (R = none → Z = -1) := by
        intro h
        rw [← hZ.out, hR, h]
        split <;> rfl
      have hzs : Hid (∀ s, R = some s → Z = if Fn.kidsOk n.kind (n.kids.map (Fn.kindAt F)) = true then (s : Int) else -1) := by
        intro s h
        rw [← hZ.out, hR, h, hfo, Bool.true_and]
        split <;> rfl
      have HR := mkH hR
      have hmem : Hid (∀ s, R = some s → ∀ k ∈ n.kids, 0 ≤ k ∧ k < (i : Int)) := fun s h => Tr.down_mem f n.kids i s (hR.trans h)
      have q6 : w1.cell? ⟨w.heap.size, 6, none⟩ = some (.slice a3 n.kids.length e3) := by simp [World.cell?, hB1]
      clear hfo hR hZ
      replace hB1 := mkH hB1
      replace hbw1 := mkH hbw1
      have hnl := hnf.2.2.2.2.2
      go_wp2
      go_loopw [8, 9] (fun ev kv wr => ∃ (c x : Nat) (ez kz : Int), ev = .int .i64 ez ∧ ez + 1 = (x : Int) ∧ kv = .int .i64 kz ∧ kz + 1 = (c : Int) ∧ c ≤ n.kids.length ∧ x ≤ i ∧ Hid (Tr.down (Tr.span (Fn.ok F) (Fn.kids F) f) (n.kids.take c).reverse x = R) ∧ Hid (wr.heap[w.heap.size]? = some (.cells #[.int .i64 n.kind, .int .i64 n.num, .int .i64 n.mat, .string n.text, .slice a1 n.names.length e1, .slice a2 n.keys.length e2, .slice a3 n.kids.length e3] 34 (0, 0))) ∧ Hid (Below w.heap.size w wr)) (fun _ kv _ => (Lib.intOf kv + 1).toNat)
      case atStart =>
        exact ⟨n.kids.length, i, (i : Int) - 1, (n.kids.length : Int) - 1, by go_num, by omega, by go_num, by omega, Nat.le_refl _, Nat.le_refl _, by show _ = _; rw [List.take_length]; exact HR.out, hB1, hbw1⟩
      case round =>
        clear q6 hB1 hbw1 HR
        obtain ⟨c, x, ez, kz, rfl, hez, rfl, hkz, hc, hx, hdn, hBr, hbr⟩ := hrel
        have q6 : wr.cell? ⟨w.heap.size, 6, none⟩ = some (.slice a3 n.kids.length e3) := by simp [World.cell?, hBr.out]
        have hszr := hbr.out.size
        rcases Nat.eq_zero_or_pos c with hc0 | hc0
        · subst hc0
          obtain rfl : kz = -1 := by omega
          have hRs : R = some x := hdn.out.symm
          have hm := mkH (hmem.out x hRs)
          have hzz := hzs.out x hRs
          have hin : ∀ j (h : j < n.kids.length) (h' : j < (n.kids.map (Fn.kindAt F)).length), ∃ q : Nat, n.kids[j] = (q : Int) ∧ ∃ hq : q < F.length, F[q].kind = (n.kids.map (Fn.kindAt F))[j] := by
            intro j h h'
            obtain ⟨m1, m2⟩ := hm.out n.kids[j] (List.getElem_mem h)
            refine ⟨n.kids[j].toNat, by omega, by omega, ?_⟩
            rw [List.getElem_map]
            unfold Fn.kindAt
            rw [List.getElem?_eq_getElem (by omega)]
            rfl
          have hK := mkH (specKids n (.slice a1 n.names.length e1) (.slice a2 n.keys.length e2) (.slice a3 n.kids.length e3) (some a) F (n.kids.map (Fn.kindAt F)) cap wr ((hI0.out.below hbr.out).mono hszr) ((hF0.out.below hbr.out).mono hszr) hnf hlF (by rw [List.length_map]) hin)
          unfold ndV at hK
          have hBr1 := hBr.out
          have k0 : wr.cell? ⟨w.heap.size, 0, none⟩ = some (.int .i64 n.kind) := by simp [World.cell?, hBr1]
          have k1 : wr.cell? ⟨w.heap.size, 1, none⟩ = some (.int .i64 n.num) := by simp [World.cell?, hBr1]
          have k2 : wr.cell? ⟨w.heap.size, 2, none⟩ = some (.int .i64 n.mat) := by simp [World.cell?, hBr1]
          have k3 : wr.cell? ⟨w.heap.size, 3, none⟩ = some (.string n.text) := by simp [World.cell?, hBr1]
          have k4 : wr.cell? ⟨w.heap.size, 4, none⟩ = some (.slice a1 n.names.length e1) := by simp [World.cell?, hBr1]
          have k5 : wr.cell? ⟨w.heap.size, 5, none⟩ = some (.slice a2 n.keys.length e2) := by simp [World.cell?, hBr1]
          clear hBr1 hBr hin hdn hRs hzn hzs hmem
          generalize Fn.kidsOk n.kind (n.kids.map (Fn.kindAt F)) = B at *
          replace hzz := mkH hzz
          go_wp2_with fail
          refine hK.out.mono ?_
          rintro e w5 ⟨rfl, hb5⟩
          have hfin := mkH (hbr.out.trans (hb5.mono hszr))
          clear hK hb5 k0 k1 k2 k3 k4 k5 q6
          cases B
          · go_wp2
            go_ret
            rw [hzz.out]
            exact ⟨rfl, hfin.out⟩
          · go_wp2
            go_ret
            rw [hzz.out]
            exact ⟨rfl, hfin.out⟩
        · obtain ⟨c', rfl⟩ : ∃ c', c = c' + 1 := ⟨c - 1, by omega⟩
          obtain rfl : kz = (c' : Int) := by omega
          have hlt : c' < n.kids.length := by omega
          obtain ⟨b, rfl, hbb, ck⟩ := (t3.out.below hbr.out) c' hlt
          have hstep : Hid (R = if 0 ≤ n.kids[c'] ∧ n.kids[c'] + 1 = (x : Int) then (match Tr.span (Fn.ok F) (Fn.kids F) f (x - 1) with | some s => Tr.down (Tr.span (Fn.ok F) (Fn.kids F) f) (n.kids.take c').reverse s | none => none) else none) := by
            show R = _
            rw [← hdn.out, List.take_succ_eq_append_getElem hlt, List.reverse_append, List.reverse_singleton, List.singleton_append]
            rfl
          clear hdn
          generalize n.kids[c'] = kc at *
          by_cases hkc : kc = ez
          · have hb1 : (kc == ez) = true := by simpa using hkc
            have hb1' : (kc != ez) = false := by simp [hkc]
            by_cases he0 : ez < 0
            · have hz := mkH (hzn.out (by rw [hstep.out, if_neg (by omega)]))
              have hb2 : decide (ez < 0) = true := by simpa using he0
              clear hkc hstep hzn hzs hmem
              go_wp2_with fail
              go_ret
              rw [hz.out]
              exact ⟨rfl, hbr.out⟩
            · obtain ⟨q, rfl⟩ : ∃ q : Nat, ez = (q : Int) := ⟨ez.toNat, by omega⟩
              obtain rfl : x = q + 1 := by omega
              have hb2 : decide ((q : Int) < 0) = false := by simp
              have hsp := hstep.out
              rw [if_pos (by omega), show q + 1 - 1 = q by omega] at hsp
              have hC := mkH (ih (deep + 1) q wr (by omega) (by omega) ((hF0.out.below hbr.out).mono hszr))
              rw [show (((deep + 1 : Nat)) : Int) = (deep : Int) + 1 by omega] at hC
              cases hs : Tr.span (Fn.ok F) (Fn.kids F) f q with
              | none =>
                rw [hs] at hsp hC
                have hz := mkH (hzn.out hsp)
                clear hkc hstep hzn hzs hmem hsp hs
                go_wp2_with fail
                refine hC.out.mono ?_
                rintro e w5 ⟨rfl, hb5⟩
                have hfin := mkH (hbr.out.trans (hb5.mono hszr))
                clear hC hb5
                unfold Tr.spV
                go_wp2_with fail
                go_ret
                rw [hz.out]
                exact ⟨rfl, hfin.out⟩
              | some s =>
                have hsl := Tr.span_le f q s hs
                rw [hs] at hsp hC
                clear hkc hstep hzn hzs hmem hs
                replace hsp := mkH hsp
                go_wp2_with fail
                refine hC.out.mono ?_
                rintro e w5 ⟨rfl, hb5⟩
                have hfin := mkH (hbr.out.trans (hb5.mono hszr))
                have hB5 := mkH ((hb5.block w.heap.size (by have := hBr.out; rw [Array.getElem?_eq_some_iff] at this; exact this.1)).trans hBr.out)
                clear hC hb5
                have hs1 : decide ((s : Int) - 1 < -1) = false := by simp; omega
                unfold Tr.spV
                go_wp2_with fail
                go_roundw
                case rel => exact ⟨c', s, (s : Int) - 1, (c' : Int) - 1, by go_num, by omega, by go_num, by omega, by omega, by omega, hsp.out.symm, hB5, hfin⟩
                case measure => simp [Lib.intOf]
          · have hz := mkH (hzn.out (by rw [hstep.out, if_neg (by omega)]))
            have hb1 : (kc == ez) = false := by simpa using hkc
            have hb1' : (kc != ez) = true := by simpa using hkc
            clear hkc hstep hzn hzs hmem
            go_wp2_with fail
            go_ret
            rw [hz.out]
            exact ⟨rfl, hbr.out⟩
end Go.Proofs.Ytmpakfpmcohcgaa
