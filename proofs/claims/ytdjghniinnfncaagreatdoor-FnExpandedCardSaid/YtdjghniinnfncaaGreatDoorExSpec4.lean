
/- The specification's walk through aliases. -/

/- The specification's Expand. -/
import Derived.Test.YtdjghniinnfncaaGreatDoorExSpec2
import Derived.Test.YtdjghniinnfncaaGreatDoorExSpec1
namespace Go.Proofs.YtdjghniinnfncaaGreatDoor
open Go.RowKit Go.Lib Go.Maps
/-- What a step leaves. -/
structure After (g lo hi : Nat) (oa : Option Addr) (ca : Nat) (A : List GAlias) (way : List ByteArray) (q : Ex.St × Int) (w' : World) : Prop where
  ex : ∃ s', Sp g lo hi oa ca A way s' q.2 w' ∧ Ex.Inv A way s' ∧ (q.2 = 0 → s' = q.1)
def GoOk (g lo hi : Nat) (oa : Option Addr) (ca : Nat) (A : List GAlias) (n : Nat) : Prop := ∀ (way : List ByteArray) (s : Ex.St) (k : ByteArray) (w : World), way.length + n = 20 → Sp g lo hi oa ca A way s 0 w → Ex.Inv A way s → s.out.length ≤ 200 → k.size ≤ 1048576 →
    Calls Tryz.prog 44 #[.pointer (some ⟨g, 0, none⟩), .string k] w fun e w' => e = .returned (.tuple #[]) ∧ Hid (After g lo hi oa ca A way (Ex.go A n way s k) w') ∧ Hid (Below g w w')
set_option maxRecDepth 20000 in
set_option maxHeartbeats 2000000 in
theorem specStill (g lo hi : Nat) (oa : Option Addr) (ca : Nat) (A : List GAlias) (way : List ByteArray) (s : Ex.St) (code : Int) (k : ByteArray) (w : World) (h : Sp g lo hi oa ca A way s code w) (hc : code ≠ 0) :
    Calls Tryz.prog 44 #[.pointer (some ⟨g, 0, none⟩), .string k] w fun e w' => e = .returned (.tuple #[]) ∧ w = w' := by
  obtain ⟨o1, c1, o2, c2, o3, c3, h1, -⟩ := h.blk
  obtain ⟨k0, k1, k2, k3, k4⟩ := cells5 h1
  have b0 : (code != 0) = true := by simp [hc]
  clear h h1
  go_enter Tryz.func44, Tryz.ntmps44
  go_wp2
  exact bodyPost_ret (v := .tuple #[]) (results_none Tryz.results44 _ _ _) rfl ⟨rfl, rfl⟩
set_option maxRecDepth 20000 in
theorem wrap64 (n : Int) (h0 : -9223372036854775808 ≤ n) (h1 : n ≤ 9223372036854775807) : IntKind.i64.wrap n = n := by
  unfold IntKind.wrap
  simp [IntKind.bits, IntKind.signed]
  omega
set_option maxRecDepth 20000 in
theorem OwnX.cap {B : Nat} {o : Option Addr} {n c : Nat} {P : List ByteArray} {w : World} (h : OwnX B (.slice o n c) P w) : P.length ≤ c := by
  rcases h.2 with ⟨h1, h2⟩ | ⟨g, cap, cur, e, hB, hg, hn, -⟩
  · omega
  · simp only [Value.slice.injEq] at e
    omega
set_option maxRecDepth 20000 in
theorem Sp.drewn {g lo hi : Nat} {oa : Option Addr} {ca : Nat} {A : List GAlias} {way : List ByteArray} {s : Ex.St} {code : Int} {w : World} (h : Sp g lo hi oa ca A way s code w) (hh : hi ≤ g) : Sp g lo hi oa ca A way s code w.drew := by
  have hb : Below w.heap.size w w.drew := (Below.refl _ _).drew
  obtain ⟨o1, c1, o2, c2, o3, c3, h1, q1, q2, q3, a⟩ := h.blk
  exact ⟨⟨o1, c1, o2, c2, o3, c3, (hb.block g h.lt).trans h1, q1.below hb, q2.below hb, q3.below hb, a⟩, h.als.below hb (by have := h.lt; omega)⟩
/-- Where the first alias of a name stands, looked for from the end. -/
structure LookAt (A : List GAlias) (k : ByteArray) (at_ i : Int) : Prop where
  lo : -1 ≤ i
  hi : i < A.length
  found : (at_ = -1 ∧ ∀ (j : Nat) (hj : j < A.length), i < j → Ex.same A[j].name k = false) ∨ ∃ (a : Nat) (ha : a < A.length), at_ = a ∧ i < a ∧ Ex.same A[a].name k = true ∧ ∀ (j : Nat) (hj : j < A.length), i < j → j < a → Ex.same A[j].name k = false
set_option maxRecDepth 20000 in
theorem LookAt.start (A : List GAlias) (k : ByteArray) : LookAt A k (-1) ((A.length : Int) - 1) := ⟨by omega, by omega, .inl ⟨rfl, fun j hj h => by omega⟩⟩
set_option maxRecDepth 20000 in
theorem LookAt.yes {A : List GAlias} {k : ByteArray} {i : Nat} (hi : i < A.length) (hs : Ex.same A[i].name k = true) : LookAt A k i ((i : Int) - 1) :=
  ⟨by omega, by omega, .inr ⟨i, hi, rfl, by omega, hs, fun j hj h1 h2 => by omega⟩⟩
set_option maxRecDepth 20000 in
theorem LookAt.no {A : List GAlias} {k : ByteArray} {at_ : Int} {i : Nat} (h : LookAt A k at_ i) (hi : i < A.length) (hs : Ex.same A[i].name k = false) : LookAt A k at_ ((i : Int) - 1) := by
  refine ⟨by omega, by omega, ?_⟩
  rcases h.found with ⟨h1, h2⟩ | ⟨a, ha, h1, h2, h3, h4⟩
  · refine .inl ⟨h1, fun j hj hh => ?_⟩
    by_cases e : j = i
    · subst e; exact hs
    · exact h2 j hj (by omega)
  · refine .inr ⟨a, ha, h1, by omega, h3, fun j hj hh h5 => ?_⟩
    by_cases e : j = i
    · subst e; exact hs
    · exact h4 j hj (by omega) h5
set_option maxRecDepth 20000 in
theorem LookAt.done {A : List GAlias} {k : ByteArray} {at_ : Int} (h : LookAt A k at_ (-1)) : (at_ = -1 ∧ Ex.find A k = none) ∨ ∃ (a : Nat) (ha : a < A.length), at_ = a ∧ Ex.find A k = some A[a] := by
  rcases h.found with ⟨h1, h2⟩ | ⟨a, ha, h1, h2, h3, h4⟩
  · exact .inl ⟨h1, Ex.find_none A k (fun j hj => h2 j hj (by omega))⟩
  · exact .inr ⟨a, ha, h1, Ex.find_some A k a ha h3 (fun j hj h5 => h4 j hj (by omega) h5)⟩
set_option maxHeartbeats 16000000 in
set_option maxRecDepth 40000 in
theorem specGoOk (g lo hi : Nat) (oa : Option Addr) (ca : Nat) (A : List GAlias) (hh : hi ≤ g) (hA : A.length ≤ 100) (hT : TextsOk A) (n : Nat) (IH : ∀ m, n = m + 1 → GoOk g lo hi oa ca A m) : GoOk g lo hi oa ca A n := by
  intro way s k w hwn h hI hfew hk1
  obtain ⟨o1, c1, o2, c2, o3, c3, h1, q1, q2, q3, a1, a2, a3⟩ := h.blk
  obtain ⟨k0, k1, k2, k3, k4⟩ := cells5 h1
  have hl := h.lt
  have hshort := hI.short
  have HAl := mkHid h.als
  have cP := mkHid (specIn o3 s.past c3 (g + 1) w.heap.size k w q3.txL (by omega))
  have cO := mkHid (specIn o1 s.out c1 (g + 1) w.heap.size k w q1.txL (by omega))
  have cW := mkHid (specIn o2 way c2 (g + 1) w.heap.size k w q2.txL (by omega))
  have HS := mkHid h
  cases hip : Ex.isIn s.past k
  · rw [hip] at cP
    obtain ⟨r, hr⟩ : ∃ r, Ex.go A n way s k = r := ⟨_, rfl⟩
    rw [hr]
    replace hr := mkHid hr
    go_enter Tryz.func44, Tryz.ntmps44
    go_wp2_with fail
    refine cP.out.mono ?_
    rintro e w1 ⟨rfl, rfl⟩
    clear cP
    go_wp2
    go_loopw [4, 5] (fun av iv wr => ∃ at_ i : Int, av = .int .i64 at_ ∧ iv = .int .i64 i ∧ Hid (LookAt A k at_ i) ∧ w = wr) (fun _ iv _ => (Lib.intOf iv + 1).toNat)
    case atStart => exact ⟨-1, (A.length : Int) - 1, rfl, by go_num, LookAt.start A k, rfl⟩
    case round =>
      obtain ⟨at_, i, rfl, rfl, hL, rfl⟩ := hrel
      by_cases h0 : 0 ≤ i
      · obtain ⟨m, rfl⟩ : ∃ m : Nat, i = (m : Int) := ⟨i.toNat, by omega⟩
        have hm : m < A.length := by have := hL.out.hi; omega
        have hge : decide ((0 : Int) ≤ (m : Int)) = true := by simp
        obtain ⟨a, v1, rfl, ha1, ha2, hAt, -⟩ := HAl.out m hm
        have d0 := hAt.c0
        have heq := eq_same A[m].name k
        have hw1 := wrap64 ((m : Int) - 1) (by omega) (by omega)
        cases hs : Ex.same A[m].name k
        · rw [hs] at heq
          have hL2 := mkHid (hL.out.no hm hs)
          clear hL hs hAt cO cW h1 q1 q2 q3 a1 a2 a3 IH
          generalize A[m].name = nm at *
          go_wp2
          go_roundw
          case rel => exact ⟨at_, (m : Int) - 1, rfl, by go_num, hL2, trivial⟩
          case measure => simp [Lib.intOf]
        · rw [hs] at heq
          have hL2 := mkHid (LookAt.yes (A := A) (k := k) hm hs)
          clear hL hs hAt cO cW h1 q1 q2 q3 a1 a2 a3 IH
          generalize A[m].name = nm at *
          go_wp2
          go_roundw
          case rel => exact ⟨(m : Int), (m : Int) - 1, by go_num, by go_num, hL2, trivial⟩
          case measure => simp [Lib.intOf]
      · obtain rfl : i = -1 := by have := hL.out.lo; omega
        rcases hL.out.done with ⟨rfl, hf⟩ | ⟨a, ha, rfl, hf⟩
        · have hgo : r = Ex.add s k := by rw [← hr.out]; cases n <;> rw [Ex.go, hf]
          clear hL hr hf IH cW
          unfold Ex.add at hgo
          cases hin : Ex.isIn s.out k
          · rw [hin] at cO
            rw [if_neg (by rw [hin]; simp)] at hgo
            have hln2 : (s.out ++ [k]).length = s.out.length + 1 := by simp
            have HG := mkHid hgo
            clear hgo hin
            go_wp2_with fail
            refine cO.out.mono ?_
            rintro e w2 ⟨rfl, rfl⟩
            clear cO
            go_wp2_with (at_builtin; go_must (refine wp_appXat rfl _ _ rfl (g + 1) (.slice o1 s.out.length c1) s.out rfl q1 k 1 rfl (by omega) (by omega) ?_; intro v' w3 hown3 hg3 hv3; obtain ⟨o', c', rfl⟩ := hown3.shape; obtain ⟨⟨xc, xf⟩, xS, xB⟩ := Sp.appOut hh HAl.out h1 q1 q2 q3 a1 a2 a3 hg3 hv3 hown3; have XS := mkHid xS; have XB := mkHid xB; clear xS xB hg3 hv3 hown3; refine Hid.out ?_))
            refine mkHid ?_
            rw [hln2] at XS XB
            obtain ⟨Z, hZ⟩ : ∃ Z, Z = w3.setCell ⟨g, 1, none⟩ (.slice o' (s.out.length + 1) c') := ⟨_, rfl⟩
            rw [← hZ] at XS XB
            obtain ⟨p1, d1, p2, d2, p3, d3, y1, -⟩ := XS.out.blk
            obtain ⟨z0, z1, z2, z3, z4⟩ := cells5 y1
            have zf := frozen5 y1 4
            rw [show (Ex.St.mk (s.out ++ [k]) s.past).out.length = s.out.length + 1 from hln2] at z1
            have hInv : Ex.Inv A way ⟨s.out ++ [k], s.past⟩ := ⟨hI.nodup, hI.named, by show (s.out ++ [k]).length ≤ 201; omega⟩
            by_cases hfull : s.out.length = 200
            · have b200 : decide ((200 : Int) < (s.out.length : Int) + 1) = true := by simp; omega
              have hr2 : r = (s, 4) := by rw [HG.out, if_pos hfull]
              have hfin := mkHid (show After g lo hi oa ca A way r (Z.setCell ⟨g, 4, none⟩ (.int .i64 4)) from by rw [hr2]; exact ⟨_, XS.out.setCode hh 4, hInv, fun e => by cases e⟩)
              have hB := mkHid (XB.out.trans (below_set Z g 4 (.int .i64 4)))
              clear XS XB y1 hr2 HG hInv hln2 hfull
              subst hZ
              go_wp2
              exact bodyPost_ret (v := .tuple #[]) (results_none Tryz.results44 _ _ _) rfl ⟨rfl, hfin, hB⟩
            · have b200 : decide ((200 : Int) < (s.out.length : Int) + 1) = false := by simp; omega
              have hr2 : r = (⟨s.out ++ [k], s.past⟩, 0) := by rw [HG.out, if_neg hfull]
              have hfin := mkHid (show After g lo hi oa ca A way r Z from by rw [hr2]; exact ⟨_, XS.out, hInv, fun _ => rfl⟩)
              clear XS y1 hr2 HG hInv hln2 hfull
              subst hZ
              go_wp2
              exact bodyPost_ret (v := .tuple #[]) (results_none Tryz.results44 _ _ _) rfl ⟨rfl, hfin, XB⟩
          · rw [hin] at cO
            rw [if_pos hin] at hgo
            have b200 : decide ((200 : Int) < (s.out.length : Int)) = false := by simp; omega
            have hfin := mkHid (show After g lo hi oa ca A way r w from by rw [hgo]; exact ⟨_, HS.out, hI, fun _ => rfl⟩)
            clear hgo hin h1 q1 q2 q3
            go_wp2_with fail
            refine cO.out.mono ?_
            rintro e w2 ⟨rfl, rfl⟩
            go_wp2
            exact bodyPost_ret (v := .tuple #[]) (results_none Tryz.results44 _ _ _) rfl ⟨rfl, hfin, Below.refl _ _⟩
        · have f4 := frozen5 h1 4
          clear cO
          cases hiw : Ex.isIn way k
          · rw [hiw] at cW
            cases n with
            | zero =>
              have hr2 : r = (s, 4) := by rw [← hr.out, Ex.go, hf]; simp [hiw, hip]
              have hfin := mkHid (show After g lo hi oa ca A way r (w.setCell ⟨g, 4, none⟩ (.int .i64 4)) from by rw [hr2]; exact ⟨_, HS.out.setCode hh 4, hI, fun e => by cases e⟩)
              have hB := mkHid (below_set w g 4 (.int .i64 4))
              have b20 : ((way.length : Int) == 20) = true := by rw [show way.length = 20 by omega]; rfl
              clear hr hr2 hf hL IH hwn h1 q1 q2 q3 a1 a2 a3
              go_wp2_with fail
              refine cW.out.mono ?_
              rintro e w2 ⟨rfl, rfl⟩
              go_wp2
              exact bodyPost_ret (v := .tuple #[]) (results_none Tryz.results44 _ _ _) rfl ⟨rfl, hfin, hB⟩
            | succ m =>
              have hIp := hI.push k (by rw [hf]; rfl) hiw hip
              have hgo := IH m rfl
              have hr2 : r = (⟨(Ex.all (Ex.go A m (way ++ [k])) s A[a].toF).1.out, (Ex.all (Ex.go A m (way ++ [k])) s A[a].toF).1.past ++ [k]⟩, (Ex.all (Ex.go A m (way ++ [k])) s A[a].toF).2) := by rw [← hr.out, Ex.go, hf]; simp [hiw, hip]
              have b20 : ((way.length : Int) == 20) = false := by simp; omega
              obtain ⟨t1, t2, t3⟩ := hT A[a] (List.getElem_mem ha)
              have hln2 : (way ++ [k]).length = way.length + 1 := by simp
              have HG := mkHid hr2
              have Hgo := mkHid hgo
              have Ht3 := mkHid t3
              clear hr hr2 hf hL IH hgo t3
              go_wp2_with fail
              refine cW.out.mono ?_
              rintro e w2 ⟨rfl, rfl⟩
              clear cW
              go_wp2_with (at_builtin; go_must (refine wp_appXat rfl _ _ rfl (g + 1) (.slice o2 way.length c2) way rfl q2 k 1 rfl (by omega) (by omega) ?_; intro v' w3 hown3 hg3 hv3; obtain ⟨o', c', rfl⟩ := hown3.shape; obtain ⟨⟨xc, xf⟩, xS, xB⟩ := Sp.appWay hh HAl.out h1 q1 q2 q3 a1 a2 a3 hg3 hv3 hown3; have XS := mkHid xS; have XB := mkHid xB; clear xS xB hg3 hv3 hown3; refine Hid.out ?_))
              refine mkHid ?_
              rw [hln2] at XS XB
              clear h1 q1 q2 q3 a1 a2 a3 k0 k1 k2 k3 k4 f4 HAl HS h
              go_wp2
              obtain ⟨L, hL⟩ : ∃ L, Ex.all (Ex.go A m (way ++ [k])) s A[a].toF = L := ⟨_, rfl⟩
              rw [hL] at HG
              go_loopw [6] (fun iv wr => ∃ (j : Nat) (s' : Ex.St) (c : Int), j ≤ A[a].toF.length ∧ iv = .int .i64 j ∧ Hid (Sp g lo hi oa ca A (way ++ [k]) s' c wr) ∧ Hid (Ex.Inv A (way ++ [k]) s') ∧ Hid ((c = 0 → s'.out.length ≤ 200 ∧ Ex.all (Ex.go A m (way ++ [k])) s' (A[a].toF.drop j) = L) ∧ (c ≠ 0 → L.2 = c)) ∧ Hid (Below g w wr)) (fun iv _ => A[a].toF.length - (Lib.intOf iv).toNat)
              case atStart => exact ⟨0, s, 0, Nat.zero_le _, rfl, XS, hIp, ⟨fun _ => ⟨hfew, hL⟩, fun e => absurd rfl e⟩, XB⟩
              case round =>
                clear XS XB hL
                obtain ⟨j, s', c, hj, rfl, hS, hInv', hRel, hB⟩ := hrel
                obtain ⟨e1, j1, e2, j2, e3, j3, y0, y1, y2, y3, b1, b2, b3⟩ := hS.out.blk
                obtain ⟨z0, z1, z2, z3, z4⟩ := cells5 y0
                obtain ⟨ad, v1, rfl, ha1, ha2, hAt, hIn⟩ := hS.out.als a ha
                obtain ⟨⟨r2, cp2, rfl, hTx⟩⟩ := hIn
                have d1 := hAt.c1
                have hsh2 := hInv'.out.short
                rw [List.length_append] at hsh2
                by_cases hlt : j < A[a].toF.length
                · obtain ⟨b, rfl, hb1, hb2, ck⟩ := hTx j hlt
                  have hxs := Ht3.out _ (List.getElem_mem hlt)
                  by_cases hc : c = 0
                  · obtain ⟨hf2, hal2⟩ := hRel.out.1 hc
                    subst hc
                    have cI := mkHid (Hgo.out (way ++ [k]) s' A[a].toF[j] wr (by simp; omega) hS.out hInv'.out hf2 hxs)
                    have hgi := mkHid (Ex.go_inv A m (way ++ [k]) s' A[a].toF[j] hInv'.out hf2)
                    rw [List.drop_eq_getElem_cons hlt, Ex.all_step] at hal2
                    have Hal2 := mkHid hal2
                    clear hal2 hRel hS hInv' y0 y1 y2 y3 b1 b2 b3 hAt
                    generalize A[a].toF[j] = x at *
                    generalize Ex.go A m (way ++ [k]) s' x = q at *
                    generalize A[a].toF.length = tl at *
                    go_wp2_with fail
                    refine cI.out.mono ?_
                    rintro e w4 ⟨rfl, hA4, hB4⟩
                    obtain ⟨s4, hS4, hI4, hE4⟩ := hA4.out.ex
                    have hB5 := mkHid (hB.out.trans hB4.out)
                    have HS4 := mkHid hS4
                    have HI4 := mkHid hI4
                    have hrel4 : Hid ((q.2 = 0 → s4.out.length ≤ 200 ∧ Ex.all (Ex.go A m (way ++ [k])) s4 (A[a].toF.drop (j + 1)) = L) ∧ (q.2 ≠ 0 → L.2 = q.2)) := ⟨fun e => by
                      rw [hE4 e]
                      refine ⟨hgi.out.2, ?_⟩
                      rw [← Hal2.out, if_pos e], fun e => by rw [← Hal2.out, if_neg e]⟩
                    clear cI hA4 hB4 hS4 hI4 hE4 hB Hal2 hgi d1 ck z0 z1 z2 z3 z4
                    go_wp2
                    go_roundw
                    case rel => exact ⟨j + 1, s4, q.2, by omega, by go_num, HS4, HI4, hrel4, hB5⟩
                    case measure => simp [Lib.intOf]; omega
                  · have cI := mkHid (specStill g lo hi (some ad) ca A (way ++ [k]) s' c A[a].toF[j] wr hS.out hc)
                    have hrel4 : Hid ((c = 0 → s'.out.length ≤ 200 ∧ Ex.all (Ex.go A m (way ++ [k])) s' (A[a].toF.drop (j + 1)) = L) ∧ (c ≠ 0 → L.2 = c)) := ⟨fun e => absurd e hc, hRel.out.2⟩
                    clear hRel y0 y1 y2 y3 b1 b2 b3 hAt
                    generalize A[a].toF[j] = x at *
                    generalize A[a].toF.length = tl at *
                    go_wp2_with fail
                    refine cI.out.mono ?_
                    rintro e w4 ⟨rfl, rfl⟩
                    clear cI
                    go_wp2
                    go_roundw
                    case rel => exact ⟨j + 1, s', c, by omega, by go_num, hS, hInv', hrel4, hB⟩
                    case measure => simp [Lib.intOf]; omega
                · obtain rfl : j = A[a].toF.length := by omega
                  have hend : (c = 0 → s' = L.1) ∧ L.2 = c := by
                    by_cases hc : c = 0
                    · obtain ⟨-, hal2⟩ := hRel.out.1 hc
                      rw [List.drop_eq_nil_of_le (Nat.le_refl _)] at hal2
                      rw [← hal2]
                      exact ⟨fun _ => rfl, hc.symm⟩
                    · exact ⟨fun e => absurd e hc, hRel.out.2 hc⟩
                  have hzl : (way ++ [k]).length = way.length + 1 := by simp
                  have hcut := (Sp.cutWay hh hS.out.als y0 y1 y2 y3 b1 b2 b3).drewn hh
                  have zf2 := frozen5 y0 2
                  rw [hzl] at z2
                  have hBc := (hB.out.trans (below_set wr g 2 (.slice e2 way.length j2))).drew
                  have hcap := y2.cap
                  rw [hzl] at hcap
                  have hszc : (wr.setCell ⟨g, 2, none⟩ (.slice e2 way.length j2)).drew.heap.size = wr.heap.size := by simp [World.setCell]
                  have hgl : g + 1 ≤ (wr.setCell ⟨g, 2, none⟩ (.slice e2 way.length j2)).drew.heap.size := hcut.lt
                  obtain ⟨m1, n1, m2, n2, m3, n3, Y0, Y1, Y2, Y3, B1, B2, B3⟩ := hcut.blk
                  have hsame := (set5_2 y0 (.slice e2 way.length j2)).symm.trans Y0
                  simp only [Option.some.injEq, Obj.cells.injEq, Array.mk.injEq, List.cons.injEq, Value.slice.injEq, true_and, and_true] at hsame
                  obtain ⟨⟨rfl, rfl⟩, ⟨rfl, rfl⟩, rfl, rfl⟩ := hsame
                  obtain ⟨U0, U1, U2, U3, U4⟩ := cells5 Y0
                  have uf3 := frozen5 Y0 3
                  have hpl : (s'.past ++ [k]).length = s'.past.length + 1 := by simp
                  have HF : Hid (∀ w', Sp g lo hi (some ad) ca A way ⟨s'.out, s'.past ++ [k]⟩ c w' → After g lo hi (some ad) ca A way r w') := fun w' hw' => by
                    rw [HG.out, hend.2]
                    exact ⟨_, hw', hInv'.out.pop, fun e => by rw [hend.1 e]⟩
                  have HC := mkHid hcut
                  have HBc := mkHid hBc
                  clear hcut hBc hend hRel hS hInv' HG Hgo Ht3 y0 y1 y2 y3 b1 b2 b3 hzl hln2 hAt hTx
                  generalize A[a].toF.length = tl at *
                  go_wp2_with fail
                  refine wp_region_any (by kernel_rfl) ?_
                  refine wpAny_take (i := 0) (v := .pointer (some ⟨g, 0, none⟩)) rfl (by kernel_rfl) (by kernel_rfl) (by kernel_rfl) (fun _ _ _ h => h) (Or.inl ⟨by rfl, ?_⟩) ?_
                  · intro w
                    go_simp
                  go_simp
                  refine wpAny_take (i := 1) (v := .pointer (some ⟨g, 0, none⟩)) rfl (by kernel_rfl) (by kernel_rfl) (by kernel_rfl) (fun _ _ _ h => h) (Or.inl ⟨by rfl, ?_⟩) ?_
                  · intro w
                    go_simp
                  go_simp
                  refine wpAny_take (i := 2) (v := .pointer (some ⟨g, 0, none⟩)) rfl (by kernel_rfl) (by kernel_rfl) (by kernel_rfl) (fun _ _ _ h => h) (Or.inl ⟨by rfl, ?_⟩) ?_
                  · intro w
                    go_simp
                  go_simp
                  refine wpAny_take (i := 3) (v := .pointer (some ⟨g, 2, none⟩)) rfl (by kernel_rfl) (by kernel_rfl) (by kernel_rfl) (fun _ _ _ h => h) (Or.inl ⟨by rfl, ?_⟩) ?_
                  · intro w
                    go_simp
                  go_simp
                  refine wpAny_take (i := 5) (v := .pointer (some ⟨g, 0, none⟩)) rfl (by kernel_rfl) (by kernel_rfl) (by kernel_rfl) (fun _ _ _ h => h) (Or.inl ⟨by rfl, ?_⟩) ?_
                  · intro w
                    go_simp
                  go_simp
                  refine wpAny_take (i := 6) (v := .pointer (some ⟨g, 0, none⟩)) rfl (by kernel_rfl) (by kernel_rfl) (by kernel_rfl) (fun _ _ _ h => h) (Or.inl ⟨by rfl, ?_⟩) ?_
                  · intro w
                    go_simp
                  go_simp
                  refine wpAny_take (i := 7) (v := .pointer (some ⟨g, 2, none⟩)) rfl (by kernel_rfl) (by kernel_rfl) (by kernel_rfl) (fun _ _ _ h => h) (Or.inl ⟨by rfl, ?_⟩) ?_
                  · intro w
                    go_simp
                  go_simp
                  refine wpAny_ready (rs := [4, 8]) (by kernel_rfl) (by simp) ?_
                  refine AllReady.cons rfl (fun K hK => ?_) (AllReady.cons rfl (fun K hK => ?_) AllReady.nil)
                  · go_simp
                    refine hK _ _ ?_
                    clear hK K
                    go_simp
                    refine wpAny_ready (rs := [8]) (by kernel_rfl) (by simp) ?_
                    refine AllReady.cons rfl (fun K hK => ?_) AllReady.nil
                    go_simp
                    refine hK _ _ ?_
                    clear hK K
                    go_simp
                    refine wpAny_take (i := 9) (v := .int .i64 ((way.length : Int) + 1)) rfl (by kernel_rfl) (by kernel_rfl) (by kernel_rfl) (fun _ _ _ h => h) (Or.inl ⟨by rfl, ?_⟩) ?_
                    · intro w
                      go_simp
                    go_simp
                    refine wpAny_take (i := 10) (v := .int .i64 (way.length : Int)) rfl (by kernel_rfl) (by kernel_rfl) (by kernel_rfl) (fun _ _ _ h => h) (Or.inl ⟨by rfl, ?_⟩) ?_
                    · intro w
                      go_simp
                      exact wrap64 _ (by omega) (by omega)
                    go_simp
                    refine wpAny_take (i := 11) (v := .slice e2 way.length j2) rfl (by kernel_rfl) (by kernel_rfl) (by kernel_rfl) (fun _ _ _ h => h) (Or.inl ⟨by rfl, ?_⟩) ?_
                    · intro w
                      go_simp
                      intro h
                      exfalso
                      omega
                    go_simp
                    refine wpAny_take (i := 12) (v := .pointer (some ⟨g, 0, none⟩)) rfl (by kernel_rfl) (by kernel_rfl) (by kernel_rfl) (fun _ _ _ h => h) (Or.inl ⟨by rfl, ?_⟩) ?_
                    · intro w
                      go_simp
                    go_simp
                    refine wpAny_take (i := 13) (v := .pointer (some ⟨g, 2, none⟩)) rfl (by kernel_rfl) (by kernel_rfl) (by kernel_rfl) (fun _ _ _ h => h) (Or.inl ⟨by rfl, ?_⟩) ?_
                    · intro w
                      go_simp
                    go_simp
                    refine wpAny_ready (rs := [14]) (by kernel_rfl) (by simp) ?_
                    refine AllReady.cons rfl (fun K hK => ?_) AllReady.nil
                    go_simp
                    refine hK _ _ ?_
                    clear hK K
                    go_simp
                    refine wpAny_done (by kernel_rfl) ?_ _
                    go_wp2_with (at_builtin; go_must (refine wp_appXat (w := (wr.setCell ⟨g, 2, none⟩ (.slice e2 way.length j2)).drew) rfl _ _ rfl (g + 1) (.slice e3 s'.past.length j3) s'.past ?_ Y3 k 1 ?_ (by omega) hgl ?_; rfl; (rw [hszc]; rfl); intro v' w3 hown3 hg3 hv3; obtain ⟨o', c', rfl⟩ := hown3.shape; obtain ⟨⟨xc, xf⟩, xS, xB⟩ := Sp.appPast hh HC.out.als Y0 Y1 Y2 Y3 B1 B2 B3 hg3 hv3 hown3; have XS2 := mkHid xS; have XB2 := mkHid xB; clear xS xB hg3 hv3 hown3; refine Hid.out ?_))
                    refine mkHid ?_
                    rw [hpl] at XS2 XB2
                    have hfin := mkHid (HF.out _ XS2.out)
                    have hB9 := mkHid (HBc.out.trans XB2.out)
                    clear XS2 XB2 Y0 Y1 Y2 Y3 HF HBc HC
                    go_wp2
                    exact bodyPost_end (v := .tuple #[]) (results_none Tryz.results44 _ _ _) rfl ⟨rfl, hfin, hB9⟩
                  · go_simp
                    refine hK _ _ ?_
                    clear hK K
                    go_simp
                    refine wpAny_take (i := 9) (v := .int .i64 ((way.length : Int) + 1)) rfl (by kernel_rfl) (by kernel_rfl) (by kernel_rfl) (fun _ _ _ h => h) (Or.inl ⟨by rfl, ?_⟩) ?_
                    · intro w
                      go_simp
                    go_simp
                    refine wpAny_take (i := 10) (v := .int .i64 (way.length : Int)) rfl (by kernel_rfl) (by kernel_rfl) (by kernel_rfl) (fun _ _ _ h => h) (Or.inl ⟨by rfl, ?_⟩) ?_
                    · intro w
                      go_simp
                      exact wrap64 _ (by omega) (by omega)
                    go_simp
                    refine wpAny_ready (rs := [4]) (by kernel_rfl) (by simp) ?_
                    refine AllReady.cons rfl (fun K hK => ?_) AllReady.nil
                    go_simp
                    refine hK _ _ ?_
                    clear hK K
                    go_simp
                    refine wpAny_take (i := 11) (v := .slice e2 way.length j2) rfl (by kernel_rfl) (by kernel_rfl) (by kernel_rfl) (fun _ _ _ h => h) (Or.inl ⟨by rfl, ?_⟩) ?_
                    · intro w
                      go_simp
                      intro h
                      exfalso
                      omega
                    go_simp
                    refine wpAny_take (i := 12) (v := .pointer (some ⟨g, 0, none⟩)) rfl (by kernel_rfl) (by kernel_rfl) (by kernel_rfl) (fun _ _ _ h => h) (Or.inl ⟨by rfl, ?_⟩) ?_
                    · intro w
                      go_simp
                    go_simp
                    refine wpAny_take (i := 13) (v := .pointer (some ⟨g, 2, none⟩)) rfl (by kernel_rfl) (by kernel_rfl) (by kernel_rfl) (fun _ _ _ h => h) (Or.inl ⟨by rfl, ?_⟩) ?_
                    · intro w
                      go_simp
                    go_simp
                    refine wpAny_ready (rs := [14]) (by kernel_rfl) (by simp) ?_
                    refine AllReady.cons rfl (fun K hK => ?_) AllReady.nil
                    go_simp
                    refine hK _ _ ?_
                    clear hK K
                    go_simp
                    refine wpAny_done (by kernel_rfl) ?_ _
                    go_wp2_with (at_builtin; go_must (refine wp_appXat (w := (wr.setCell ⟨g, 2, none⟩ (.slice e2 way.length j2)).drew) rfl _ _ rfl (g + 1) (.slice e3 s'.past.length j3) s'.past ?_ Y3 k 1 ?_ (by omega) hgl ?_; rfl; (rw [hszc]; rfl); intro v' w3 hown3 hg3 hv3; obtain ⟨o', c', rfl⟩ := hown3.shape; obtain ⟨⟨xc, xf⟩, xS, xB⟩ := Sp.appPast hh HC.out.als Y0 Y1 Y2 Y3 B1 B2 B3 hg3 hv3 hown3; have XS2 := mkHid xS; have XB2 := mkHid xB; clear xS xB hg3 hv3 hown3; refine Hid.out ?_))
                    refine mkHid ?_
                    rw [hpl] at XS2 XB2
                    have hfin := mkHid (HF.out _ XS2.out)
                    have hB9 := mkHid (HBc.out.trans XB2.out)
                    clear XS2 XB2 Y0 Y1 Y2 Y3 HF HBc HC
                    go_wp2
                    exact bodyPost_end (v := .tuple #[]) (results_none Tryz.results44 _ _ _) rfl ⟨rfl, hfin, hB9⟩
          · rw [hiw] at cW
            have hr2 : r = (s, 9) := by rw [← hr.out]; cases n <;> (rw [Ex.go, hf]; simp [hiw])
            have hfin := mkHid (show After g lo hi oa ca A way r (w.setCell ⟨g, 4, none⟩ (.int .i64 9)) from by rw [hr2]; exact ⟨_, HS.out.setCode hh 9, hI, fun e => by cases e⟩)
            have hB := mkHid (below_set w g 4 (.int .i64 9))
            clear hr hr2 hf hL IH h1 q1 q2 q3 a1 a2 a3
            go_wp2_with fail
            refine cW.out.mono ?_
            rintro e w2 ⟨rfl, rfl⟩
            go_wp2
            exact bodyPost_ret (v := .tuple #[]) (results_none Tryz.results44 _ _ _) rfl ⟨rfl, hfin, hB⟩
  · obtain ⟨hnw, hsome⟩ := hI.past_way k hip
    have hgo : Ex.go A n way s k = (s, 0) := by
      obtain ⟨al, hal⟩ := Option.isSome_iff_exists.1 hsome
      cases n <;> (rw [Ex.go, hal]; simp [hnw, hip])
    rw [hgo]
    rw [hip] at cP
    have hfin := mkHid (show After g lo hi oa ca A way (s, 0) w from ⟨s, HS.out, hI, fun _ => rfl⟩)
    clear cO cW hgo IH h h1 q1 q2 q3
    go_enter Tryz.func44, Tryz.ntmps44
    go_wp2_with fail
    refine cP.out.mono ?_
    rintro e w1 ⟨rfl, rfl⟩
    go_wp2
    exact bodyPost_ret (v := .tuple #[]) (results_none Tryz.results44 _ _ _) rfl ⟨rfl, hfin, Below.refl _ _⟩
set_option maxRecDepth 20000 in
theorem specGo (g lo hi : Nat) (oa : Option Addr) (ca : Nat) (A : List GAlias) (hh : hi ≤ g) (hA : A.length ≤ 100) (hT : TextsOk A) : ∀ n, GoOk g lo hi oa ca A n
  | 0 => specGoOk g lo hi oa ca A hh hA hT 0 (fun m h => by omega)
  | n + 1 => specGoOk g lo hi oa ca A hh hA hT (n + 1) (fun m h => by
    obtain rfl : n = m := by omega
    exact specGo g lo hi oa ca A hh hA hT n)
end Go.Proofs.YtdjghniinnfncaaGreatDoor
namespace Go.Proofs.YtdjghniinnfncaaGreatDoor
open Go.RowKit Go.Lib Go.Maps
set_option maxHeartbeats 8000000 in
set_option maxRecDepth 40000 in
theorem specExpandW (oa : Option Addr) (A : List GAlias) (ca lo : Nat) (o : Option Addr) (K : List ByteArray) (cap lo2 hi2 : Nat) (w : World) (hF : GAliassL lo w.heap.size w oa A) (hA : A.length ≤ 100) (hT : TextsOk A) (hK : TxL lo2 hi2 w o K) (hhi2 : hi2 ≤ w.heap.size) (hKl : K.length ≤ 1048576) (hKs : ∀ t ∈ K, t.size ≤ 1048576) :
    Calls Tryz.prog 24 #[.slice oa A.length ca, .slice o K.length cap] w fun e w' => Hid (∃ (oo : Option Addr) (P : List ByteArray) (cc : Nat), e = .returned (.agg #[.int .i64 (Ex.run A K).2, .slice oo P.length cc]) ∧ P = (if (Ex.run A K).2 = 0 then (Ex.run A K).1.out else []) ∧ P.length ≤ 200 ∧ OwnX w.heap.size (.slice oo P.length cc) P w' ∧ Below w.heap.size w w') := by
  obtain ⟨W, hW⟩ : ∃ W, W = (w.alloc (.cells #[.int .i64 0, .slice none 0 0] 28)).alloc (.cells #[.slice oa A.length ca, .slice none 0 0, .slice none 0 0, .slice none 0 0, .int .i64 0] 81) := ⟨_, rfl⟩
  have a1 : Below w.heap.size w (w.alloc (.cells #[.int .i64 0, .slice none 0 0] 28)) := (Below.refl _ _).alloc (Nat.le_refl _) _
  have hbW : Below w.heap.size w W := by rw [hW]; exact a1.alloc a1.size _
  have hWs : W.heap.size = w.heap.size + 2 := by rw [hW]; simp
  have hr0 : W.heap[w.heap.size]? = some (.cells #[.int .i64 0, .slice none 0 0] 28 (0, 0)) := by rw [hW, heap_alloc_old _ _ _ (by simp)]; exact heap_alloc_at _ _
  have hr1 : W.heap[w.heap.size + 1]? = some (.cells #[.slice oa A.length ca, .slice none 0 0, .slice none 0 0, .slice none 0 0, .int .i64 0] 81 (0, 0)) := by
    have := heap_alloc_at (w.alloc (.cells #[.int .i64 0, .slice none 0 0] 28)) (.cells #[.slice oa A.length ca, .slice none 0 0, .slice none 0 0, .slice none 0 0, .int .i64 0] 81)
    rw [hW]
    simpa using this
  have hap : Apart (.slice none 0 0) (.slice none 0 0) := fun k hk => by simp [Value.ownBlock] at hk
  have hS : Sp (w.heap.size + 1) lo w.heap.size oa ca A [] ⟨[], []⟩ 0 W := ⟨⟨none, 0, none, 0, none, 0, hr1, OwnX.nil _ _, OwnX.nil _ _, OwnX.nil _ _, hap, hap, hap⟩, hF.below hbW (Nat.le_refl _)⟩
  have hgo := mkHid (specGo (w.heap.size + 1) lo w.heap.size oa ca A (by omega) hA hT 20)
  have HK := mkHid (hK.below hbW hhi2)
  have HKs := mkHid hKs
  have HbW := mkHid hbW
  have HW := mkHid hW.symm
  have Hr0 := mkHid hr0
  have HS := mkHid hS
  obtain ⟨L, hL⟩ : ∃ L, Ex.run A K = L := ⟨_, rfl⟩
  rw [hL]
  have HL : Hid (Ex.all (Ex.go A 20 []) ⟨[], []⟩ (K.drop 0) = L) := hL
  obtain ⟨cd, hcd⟩ : ∃ cd, L.2 = cd := ⟨_, rfl⟩
  obtain ⟨P0, hP0⟩ : ∃ P0, (if L.2 = 0 then L.1.out else []) = P0 := ⟨_, rfl⟩
  rw [hP0, hcd]
  rw [hcd] at hP0
  replace hcd := mkHid hcd
  replace hP0 := mkHid hP0
  clear hF hK hKs hW a1 hbW hr0 hr1 hap hS hL
  go_enter Tryz.func24, Tryz.ntmps24
  go_wp2
  rw [HW.out]
  go_loopw [6] (fun iv wr => ∃ (j : Nat) (s' : Ex.St) (c : Int), j ≤ K.length ∧ iv = .int .i64 j ∧ Hid (Sp (w.heap.size + 1) lo w.heap.size oa ca A [] s' c wr) ∧ Hid (Ex.Inv A [] s') ∧ Hid ((c = 0 → s'.out.length ≤ 200 ∧ Ex.all (Ex.go A 20 []) s' (K.drop j) = L) ∧ (c ≠ 0 → L.2 = c)) ∧ Hid (Below (w.heap.size + 1) W wr)) (fun iv _ => K.length - (Lib.intOf iv).toNat)
  case atStart => exact ⟨0, ⟨[], []⟩, 0, Nat.zero_le _, rfl, HS, Ex.start_inv A, ⟨fun _ => ⟨by simp, HL.out⟩, fun e => absurd rfl e⟩, Below.refl _ _⟩
  case round =>
    clear HS HL HW
    obtain ⟨j, s', c, hj, rfl, hS, hInv', hRel, hB⟩ := hrel
    obtain ⟨e1, j1, e2, j2, e3, j3, y0, y1, -⟩ := hS.out.blk
    obtain ⟨z0, z1, z2, z3, z4⟩ := cells5 y0
    by_cases hlt : j < K.length
    · obtain ⟨b, rfl, hb1, hb2, ck⟩ := (HK.out.below hB.out (by omega)) j hlt
      have hxs := HKs.out _ (List.getElem_mem hlt)
      by_cases hc : c = 0
      · obtain ⟨hf2, hal2⟩ := hRel.out.1 hc
        subst hc
        have cI := mkHid (hgo.out [] s' K[j] wr rfl hS.out hInv'.out hf2 hxs)
        have hgi := mkHid (Ex.go_inv A 20 [] s' K[j] hInv'.out hf2)
        rw [List.drop_eq_getElem_cons hlt, Ex.all_step] at hal2
        have Hal2 := mkHid hal2
        clear hal2 hRel hS hInv' y0 y1
        generalize K[j] = x at *
        generalize Ex.go A 20 [] s' x = q at *
        go_wp2_with fail
        refine cI.out.mono ?_
        rintro e w4 ⟨rfl, hA4, hB4⟩
        obtain ⟨s4, hS4, hI4, hE4⟩ := hA4.out.ex
        have hB5 := mkHid (hB.out.trans hB4.out)
        have HS4 := mkHid hS4
        have HI4 := mkHid hI4
        have hrel4 : Hid ((q.2 = 0 → s4.out.length ≤ 200 ∧ Ex.all (Ex.go A 20 []) s4 (K.drop (j + 1)) = L) ∧ (q.2 ≠ 0 → L.2 = q.2)) := ⟨fun e => by
          rw [hE4 e]
          refine ⟨hgi.out.2, ?_⟩
          rw [← Hal2.out, if_pos e], fun e => by rw [← Hal2.out, if_neg e]⟩
        clear cI hA4 hB4 hS4 hI4 hE4 hB Hal2 hgi ck z0 z1 z2 z3 z4
        go_wp2
        go_roundw
        case rel => exact ⟨j + 1, s4, q.2, by omega, by go_num, HS4, HI4, hrel4, hB5⟩
        case measure => simp [Lib.intOf]; omega
      · have cI := mkHid (specStill (w.heap.size + 1) lo w.heap.size oa ca A [] s' c K[j] wr hS.out hc)
        have hrel4 : Hid ((c = 0 → s'.out.length ≤ 200 ∧ Ex.all (Ex.go A 20 []) s' (K.drop (j + 1)) = L) ∧ (c ≠ 0 → L.2 = c)) := ⟨fun e => absurd e hc, hRel.out.2⟩
        clear hRel y0 y1
        generalize K[j] = x at *
        go_wp2_with fail
        refine cI.out.mono ?_
        rintro e w4 ⟨rfl, rfl⟩
        clear cI
        go_wp2
        go_roundw
        case rel => exact ⟨j + 1, s', c, by omega, by go_num, hS, hInv', hrel4, hB⟩
        case measure => simp [Lib.intOf]; omega
    · have hend : (c = 0 → s' = L.1) ∧ L.2 = c := by
        by_cases hc : c = 0
        · obtain ⟨-, hal2⟩ := hRel.out.1 hc
          rw [List.drop_eq_nil_of_le (by omega)] at hal2
          rw [← hal2]
          exact ⟨fun _ => rfl, hc.symm⟩
        · exact ⟨fun e => absurd e hc, hRel.out.2 hc⟩
      have hrW := (hB.out.block w.heap.size (Nat.lt_succ_self _)).trans Hr0.out
      have hBw := mkHid (HbW.out.trans (hB.out.mono (Nat.le_succ _)))
      have hfew : c = 0 → s'.out.length ≤ 200 := fun e => (hRel.out.1 e).1
      have hown := mkHid (y1.base (show w.heap.size + 1 ≤ w.heap.size + 1 + 1 by omega))
      have Hend : Hid (cd = c ∧ (c = 0 → P0 = s'.out) ∧ (c ≠ 0 → P0 = [])) := by
        have e1 := hcd.out.symm.trans hend.2
        refine ⟨e1, fun e => ?_, fun e => ?_⟩
        · rw [← hP0.out, e1, if_pos e, hend.1 e]
        · rw [← hP0.out, e1, if_neg e]
      clear hend hRel hS hInv' y0 y1 hB Hr0 HbW hcd hP0
      obtain ⟨rfl, hP1, hP2⟩ := Hend.out
      clear Hend
      by_cases hc : cd = 0
      · have hf2 := hfew hc
        obtain rfl := hP1 hc
        subst hc
        clear hP1 hP2 hfew
        have hset := mkHid (fun (v : World) (row : Array Value) => grown_setRow v w.heap.size row)
        go_wp2_with (first | (refine wpL_store_row rfl 28 _ _ rfl w.heap.size #[.int .i64 0, .slice e1 s'.out.length j1] rfl rfl 28 _ hrW (by kernel_rfl) rfl (by simp [Value.oneCell']) ?_) | go_in)
        refine bodyPost_ret (v := .agg #[.int .i64 0, .slice e1 s'.out.length j1]) (results_cell_row Tryz.results24 _ _ w.heap.size 28 _ (0, 0) _ rfl (setRow_heap _ _ _ _ _ _ hrW) Tryz.underlying28 rfl (by kernel_rfl)) rfl ?_
        exact mkHid ⟨e1, s'.out, j1, rfl, rfl, hf2, (hown.out.keep (hset.out _ _) (own_ne hown.out (by omega))).base (by omega), hBw.out.grown (hset.out _ _) hBw.out.size (fun j hj => by cases hj; exact Nat.le_refl _)⟩
      · have bc : (cd != 0) = true := by simp [hc]
        obtain rfl := hP2 hc
        clear hP1 hP2 hfew hown
        go_wp2_with (first | (refine wpL_store_row rfl 28 _ _ rfl w.heap.size #[.int .i64 cd, .slice none 0 0] rfl rfl 28 _ hrW (by kernel_rfl) rfl (by simp [Value.oneCell']) ?_) | go_in)
        refine bodyPost_ret (v := .agg #[.int .i64 cd, .slice none 0 0]) (results_cell_row Tryz.results24 _ _ w.heap.size 28 _ (0, 0) _ rfl (setRow_heap _ _ _ _ _ _ hrW) Tryz.underlying28 rfl (by kernel_rfl)) rfl ?_
        exact mkHid ⟨none, [], 0, rfl, rfl, by simp, OwnX.nil _ _, hBw.out.grown (grown_setRow _ _ _) hBw.out.size (fun j hj => by cases hj; exact Nat.le_refl _)⟩
end Go.Proofs.YtdjghniinnfncaaGreatDoor
