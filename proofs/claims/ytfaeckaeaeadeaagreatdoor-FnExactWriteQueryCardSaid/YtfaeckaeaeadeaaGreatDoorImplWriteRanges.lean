
/- The program's WriteRanges. -/
import Derived.Test.YtfaeckaeaeadeaaGreatDoorImplRanges
import Derived.Test.YtfaeckaeaeadeaaGreatDoorTabDec
import Derived.Test.YtfaeckaeaeadeaaGreatDoorOwnX
import Derived.Lib.Join
namespace Go.Proofs.YtfaeckaeaeadeaaGreatDoor
open Go.RowKit Go.Lib Go.Maps
def oneB (r : GRange) : ByteArray := ⟨(Rg.one r).toArray⟩
set_option maxRecDepth 20000 in
theorem oneB_data (r : GRange) : (oneB r).data.toList = Rg.one r := rfl
set_option maxRecDepth 20000 in
theorem tail_more (F : List GRange) : Lib.joinTail [44] ((F.map oneB).map (·.data.toList)) = Rg.more F := by
  induction F with
  | nil => rfl
  | cons r t ih =>
    unfold Lib.joinTail at ih ⊢
    rw [List.map_cons, List.map_cons, List.map_cons, List.flatten_cons, ih, Rg.more, oneB_data]
    rfl
set_option maxRecDepth 20000 in
theorem join_wr (F : List GRange) : Lib.join ((F.map oneB).map (·.data.toList)) [44] = Rg.wr F := by
  cases F with
  | nil => rfl
  | cons r t =>
    rw [List.map_cons, List.map_cons, Lib.join_cons, tail_more, Rg.wr, oneB_data]
set_option maxRecDepth 20000 in
theorem more_len (F : List GRange) (h : ∀ r ∈ F, Rg.rOk r = true) : (Rg.more F).length ≤ F.length * 22 := by
  induction F with
  | nil => simp [Rg.more]
  | cons r t ih =>
    have a := Rg.one_small r (h r (by simp))
    have b := ih (fun x hx => h x (by simp [hx]))
    rw [Rg.more, List.length_cons, List.length_append, List.length_cons]
    omega
set_option maxRecDepth 20000 in
theorem wr_len (F : List GRange) (h : ∀ r ∈ F, Rg.rOk r = true) : (Rg.wr F).length ≤ F.length * 22 := by
  cases F with
  | nil => simp [Rg.wr]
  | cons r t =>
    have a := Rg.one_small r (h r (by simp))
    have b := more_len t (fun x hx => h x (by simp [hx]))
    rw [Rg.wr, List.length_append, List.length_cons]
    omega
set_option maxRecDepth 20000 in
set_option maxHeartbeats 1000000 in
theorem implEnd (z : Int) (w : World) (h0 : 0 ≤ z) (h1 : z ≤ 4294967295) (hP : PTab w) :
    Calls Tryz.prog 60 #[.int .i64 z] w fun e w' => e = .returned (.string ⟨(Rg.num z).toArray⟩) ∧ Below w.heap.size w w' := by
  have cF := mkHid (libFormat z w h0 (by omega) hP)
  clear hP
  unfold Rg.num
  by_cases h : z = 4294967295
  · rw [if_pos h]
    subst h
    clear cF
    go_enter Tryz.func60, Tryz.ntmps60
    go_wp2
    go_ret
    exact ⟨rfl, Below.refl _ _⟩
  · rw [if_neg h]
    have hb : (z == 4294967295) = false := by simpa using h
    generalize (⟨(decDigits z.toNat).toArray⟩ : ByteArray) = t at *
    go_enter Tryz.func60, Tryz.ntmps60
    go_wp2_with fail
    refine cF.out.mono ?_
    rintro e w1 ⟨rfl, hb1⟩
    go_wp2
    go_ret
    exact ⟨rfl, hb1⟩
set_option maxRecDepth 20000 in
theorem one_same (p : Int) : (⟨(Rg.num p).toArray⟩ : ByteArray) = oneB ⟨p, p⟩ := by
  unfold oneB Rg.one
  rw [if_neg (by show ¬ p < p; omega), List.append_nil]
set_option maxRecDepth 20000 in
theorem one_two (p q : Int) (h : p < q) : (⟨(Rg.num p).toArray⟩ : ByteArray) ++ ((⟨#[58]⟩ : ByteArray) ++ ⟨(Rg.num q).toArray⟩) = oneB ⟨p, q⟩ := by
  unfold oneB Rg.one
  rw [if_pos (by show p < q; exact h)]
  apply ByteArray.ext
  apply Array.ext'
  simp [ByteArray.data_append]
set_option maxRecDepth 20000 in
theorem num_size (z : Int) (h0 : 0 ≤ z) (h1 : z ≤ 4294967295) : (⟨(Rg.num z).toArray⟩ : ByteArray).size ≤ 10 := by
  show (Rg.num z).toArray.size ≤ 10
  rw [List.size_toArray]
  exact Rg.num_small z h0 h1
set_option maxRecDepth 20000 in
set_option maxHeartbeats 4000000 in
theorem implWriteRanges (o : Option Addr) (F : List GRange) (cap lo : Nat) (w : World) (hP : PTab w) (hF : GRangesL lo w.heap.size w o F) (hl : F.length ≤ 1048576) (_hf : ∀ f ∈ F, f.fits 1048576) :
    Calls Tryz.prog 38 #[.slice o F.length cap] w fun e w' => e = .returned (.string (plWriteRanges F)) ∧ Below w.heap.size w w' := by
  have cA := mkHid (implAreRanges o F cap lo w hF hl)
  have HF := mkHid hF
  have HP := mkHid hP
  unfold plWriteRanges
  obtain ⟨b, hb⟩ : ∃ b, Rg.rsOk F = b := ⟨_, rfl⟩
  rw [hb] at cA ⊢
  clear hF hP
  cases b with
  | false =>
    rw [if_neg (by simp)]
    clear hb
    go_enter Tryz.func38, Tryz.ntmps38
    go_wp2_with fail
    refine cA.out.mono ?_
    rintro e w1 ⟨rfl, hb1⟩
    go_wp2
    go_ret
    exact ⟨rfl, hb1⟩
  | true =>
    rw [if_pos rfl]
    obtain ⟨t, ht⟩ : ∃ t, (⟨(Rg.wr F).toArray⟩ : ByteArray) = t := ⟨_, rfl⟩
    rw [ht]
    have Ht := mkHid ht
    clear ht
    unfold Rg.rsOk at hb
    simp only [Bool.and_eq_true, decide_eq_true_eq] at hb
    obtain ⟨l1, l2, hall⟩ := hb
    have HA : Hid (∀ r ∈ F, Rg.rOk r = true) := List.all_eq_true.1 hall
    clear hall
    go_enter Tryz.func38, Tryz.ntmps38
    go_wp2_with fail
    refine cA.out.mono ?_
    rintro e w1 ⟨rfl, hb1⟩
    have s1 : w.heap.size ≤ w1.heap.size := hb1.size
    have HB1 := mkHid hb1
    clear cA hb1
    go_wp2
    go_loopw [3, 12] (fun yv iv wr => ∃ i : Nat, i ≤ F.length ∧ iv = .int .i64 i ∧ Hid (OwnX w.heap.size yv ((F.take i).map oneB) wr) ∧ Hid (Below w.heap.size w wr) ∧ w.heap.size ≤ wr.heap.size) (fun _ iv _ => F.length - (Lib.intOf iv).toNat)
    case atStart => exact ⟨0, Nat.zero_le _, rfl, OwnX.nil _ _, HB1, s1⟩
    case round =>
      clear HB1 s1
      obtain ⟨i, hi, rfl, hown, hB, hs⟩ := hrel
      by_cases hlt : i < F.length
      · obtain ⟨a, rfl, ha1, ha2, hAt⟩ := ((HF.out.below hB.out (Nat.le_refl _)).mono (Nat.le_refl _) hB.out.size) i hlt
        have hOk := HA.out F[i] (List.getElem_mem hlt)
        unfold Rg.rOk at hOk
        simp only [Bool.and_eq_true, decide_eq_true_eq] at hOk
        have d0 := hAt.c0
        have d1 := hAt.c1
        have htk : Hid ((F.take i).map oneB ++ [oneB F[i]] = (F.take (i + 1)).map oneB) := by
          show _ = _
          rw [List.take_succ_eq_append_getElem hlt, List.map_append]
          rfl
        have hnb : Hid (∀ k, u3.ownBlock = some k → w.heap.size ≤ k) := fun k hk => (World.ownsRow.lt hown.out k hk).1
        clear hAt
        generalize F[i] = r at *
        obtain ⟨p, q⟩ := r
        replace d0 : wr.cell? (a.add (i * 2)) = some (.int .i64 p) := d0
        replace d1 : wr.cell? ⟨(a.add (i * 2)).block, (a.add (i * 2)).off + 1, none⟩ = some (.int .i64 q) := d1
        replace hOk : 1 ≤ p ∧ p ≤ q ∧ q ≤ 4294967295 := hOk
        obtain ⟨o1, o2, o3⟩ := hOk
        obtain ⟨V, hV⟩ : ∃ V, V = wr.alloc (.cells #[.int .i64 p, .int .i64 q] 75) := ⟨_, rfl⟩
        have BV : Below wr.heap.size wr V := by rw [hV]; exact (Below.refl _ _).alloc (Nat.le_refl _) _
        have e0 : V.cell? ⟨wr.heap.size, 0, none⟩ = some (.int .i64 p) := by rw [hV]; simp
        have e1 : V.cell? ⟨wr.heap.size, 1, none⟩ = some (.int .i64 q) := by rw [hV]; simp
        have sV : wr.heap.size < V.heap.size := by rw [hV]; simp
        have PV : PTab V := ptab_on (ptab_on HP.out hB.out) BV
        have cE := mkHid (implEnd p V (by omega) (by omega) PV)
        have HV := mkHid hV
        have HBV := mkHid BV
        have HPV := mkHid PV
        have zp := num_size p (by omega) (by omega)
        have zq := num_size q (by omega) (by omega)
        have HS := mkHid (one_same p)
        have HT := mkHid (one_two p q)
        have E0 := mkHid e0
        have E1 := mkHid e1
        clear hV BV PV e0 e1
        have hE2 : Hid (∀ w, PTab w → Calls Tryz.prog 60 #[.int .i64 q] w fun e w' => e = .returned (.string ⟨(Rg.num q).toArray⟩) ∧ Below w.heap.size w w') := fun w hP => implEnd q w (by omega) (by omega) hP
        generalize (⟨(Rg.num p).toArray⟩ : ByteArray) = tp at *
        generalize (⟨(Rg.num q).toArray⟩ : ByteArray) = tq at *
        go_wp2_with (go_at_call 60; fail)
        rw [← HV.out]
        refine cE.out.mono ?_
        rintro e w2 ⟨rfl, hb2⟩
        have f0 : w2.cell? ⟨wr.heap.size, 0, none⟩ = some (.int .i64 p) := (hb2.cell (p := ⟨wr.heap.size, 0, none⟩) sV).trans E0.out
        have f1 : w2.cell? ⟨wr.heap.size, 1, none⟩ = some (.int .i64 q) := (hb2.cell (p := ⟨wr.heap.size, 1, none⟩) sV).trans E1.out
        have P2 := mkHid (ptab_on HPV.out hb2)
        have B2 := mkHid (HBV.out.trans (hb2.mono HBV.out.size))
        have s2 : wr.heap.size < w2.heap.size := Nat.lt_of_lt_of_le sV hb2.size
        clear cE HV HBV HPV hb2 E0 E1 d0 d1 sV
        by_cases hpq : p = q
        · subst hpq
          have x1 : (p != p) = false := by simp
          rw [HS.out] at *
          have O2 := mkHid (hown.out.below B2.out)
          have BB := mkHid (hB.out.trans (B2.out.mono hs))
          have s3 : w.heap.size ≤ w2.heap.size := by omega
          clear hown hB B2 HT hE2 zq
          generalize oneB ⟨p, p⟩ = tr at *
          go_wp2_with (first | (at_builtin; go_must (refine wp_appX rfl _ _ rfl w.heap.size u3 ((F.take i).map oneB) rfl O2.out tr 1 rfl (by simp; omega) s3 ?_; intro y5 w6 hown5 hg5; refine Hid.out ?_)) | fail)
          rw [htk.out] at hown5
          have hB6 : Hid (Below w.heap.size w w6) := (BB.out.alloc (by omega) (.cells #[.string tr] 9)).grown hg5 (by simp; omega) (fun k hk => hnb.out k hk)
          replace hown5 := mkHid hown5
          have hs6 : w.heap.size ≤ w6.heap.size := hB6.out.size
          clear hg5 hnb O2 BB htk
          refine mkHid ?_
          go_wp2
          go_roundw
          case rel => exact ⟨i + 1, by omega, by go_num, hown5, hB6, hs6⟩
          case measure => simp [Lib.intOf]; omega
        · have x1 : (p != q) = true := by simpa using hpq
          have c2 := mkHid (hE2.out w2 P2.out)
          clear hE2 HS
          go_wp2_with (go_at_call 60; fail)
          refine c2.out.mono ?_
          rintro e w3 ⟨rfl, hb3⟩
          have hj := HT.out (by omega)
          have B3 := mkHid (B2.out.trans (hb3.mono (Nat.le_of_lt s2)))
          have O2 := mkHid (hown.out.below B3.out)
          have BB := mkHid (hB.out.trans (B3.out.mono hs))
          have s3 : w.heap.size ≤ w3.heap.size := BB.out.size
          have hz1 : tp.size + (1 + tq.size) ≤ 1000 := by omega
          clear c2 hown hB B2 B3 HT hb3 f0 f1
          generalize oneB ⟨p, q⟩ = tr at *
          go_wp2_with (first | (at_builtin; go_must (refine wp_appX rfl _ _ rfl w.heap.size u3 ((F.take i).map oneB) rfl O2.out tr 1 rfl (by simp; omega) s3 ?_; intro y5 w6 hown5 hg5; refine Hid.out ?_)) | fail)
          rw [htk.out] at hown5
          have hB6 : Hid (Below w.heap.size w w6) := (BB.out.alloc (by omega) (.cells #[.string tr] 9)).grown hg5 (by simp; omega) (fun k hk => hnb.out k hk)
          replace hown5 := mkHid hown5
          have hs6 : w.heap.size ≤ w6.heap.size := hB6.out.size
          clear hg5 hnb O2 BB htk
          refine mkHid ?_
          go_wp2
          go_roundw
          case rel => exact ⟨i + 1, by omega, by go_num, hown5, hB6, hs6⟩
          case measure => simp [Lib.intOf]; omega
      · have hie : i = F.length := by omega
        subst hie
        rw [List.take_length] at hown
        have hnn : (F.map oneB).length = F.length := List.length_map _
        rcases hown.out.2 with ⟨_, h0⟩ | ⟨g, cap', cur, hv, hg1, hg2, hg3, _, _, _⟩
        · omega
        · have hlt2 := World.ownsRow.lt hown.out g (by rw [hv]; rfl)
          have hcells : ∀ (j : Nat) x, (F.map oneB)[j]? = some x → wr.cell? ⟨g, 0 + j, none⟩ = some (.string x) := by
            intro j x hj
            have hc := World.ownsRow.cells hown.out (g := g) (by rw [hv]; rfl) j (.string x) (by unfold strCellsX; rw [List.getElem?_map, hj]; rfl)
            rw [add_off] at hc
            rw [Nat.zero_add]
            exact hc
          have hlenJ : (Lib.join ((F.map oneB).map (·.data.toList)) [44]).length ≤ 140737488355328 := by
            rw [join_wr]
            have := wr_len F HA.out
            omega
          have hJ := Tryz.strings_Join g 0 cap' (F.map oneB) ⟨#[44]⟩ wr hcells hlt2.2 (by omega) hg3 hlenJ
          rw [show Lib.join ((F.map oneB).map (·.data.toList)) (⟨#[44]⟩ : ByteArray).data.toList = Rg.wr F from join_wr F, Ht.out] at hJ
          replace hJ := mkHid hJ
          subst hv
          clear hcells hlenJ hown hg1 hg2 HP HF HA hnn hlt2 hlt hg3
          generalize (F.map oneB).length = nn at *
          go_wp2_with (go_at_call 14; fail)
          refine hJ.out.mono ?_
          rintro e w2 ⟨rfl, hb2⟩
          have hbe := mkHid (hB.out.trans (hb2.mono hs))
          go_wp2
          go_ret
          exact ⟨rfl, hbe.out⟩
end Go.Proofs.YtfaeckaeaeadeaaGreatDoor
