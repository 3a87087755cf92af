
/- The program's reader of a script: numbers, matches. (By tools/gen/rpsmall3.py.) -/

/- The program's reader of a script: matches, lists of texts. -/

/- The program's reader of a script: texts; names of variables. -/
import Derived.Test.YtlphojaeaogehaaGreatDoorRpSmall2
import Derived.Lib.ParseIntBCases
import Derived.Lib.AtoiTie
import Derived.Deep.LoopGhost
namespace Go.Proofs.YtlphojaeaogehaaGreatDoor
open Go.RowKit Go.Lib Go.Maps
set_option maxRecDepth 20000 in
theorem Rf.num_dec : ∀ (l : List UInt8) (a : Nat), l.all Rf.digK = true → Lib.decFrom a l = some (Rf.numF a l) := by
  intro l
  induction l with
  | nil => intro a _; rfl
  | cons c r ih =>
    intro a hd
    simp only [List.all_cons, Bool.and_eq_true] at hd
    have hc : 48 ≤ c.toNat ∧ c.toNat ≤ 57 := by simpa [Rf.digK] using hd.1
    have e := ih (10 * a + (c.toNat - 48)) hd.2
    simp only [Lib.decFrom, Lib.digitVal, if_pos hc]
    rw [show a * 10 + (c.toNat - 48) = 10 * a + (c.toNat - 48) by omega]
    exact e
set_option maxRecDepth 20000 in
theorem Rf.num_parse (l : List UInt8) (hd : l.all Rf.digK = true) (h0 : l ≠ []) (hl : l.length ≤ 9) : Lib.parseIntB 64 l = .ok (Rf.num l : Int) := by
  have hlt := Rf.num_lt l hd hl
  have hm := Lib.parseMag_short l (by omega)
  have hn := Rf.num_dec l 0 hd
  cases l with
  | nil => exact absurd rfl h0
  | cons c r =>
    have hc : 48 ≤ c.toNat ∧ c.toNat ≤ 57 := by
      simp only [List.all_cons, Bool.and_eq_true] at hd
      simpa [Rf.digK] using hd.1
    rw [Lib.parseIntB_plain 64 c r (by omega) (by omega), Lib.parseUintB_64, hm]
    have hn' : Lib.decNat (c :: r) = some (Rf.num (c :: r)) := hn
    generalize Rf.num (c :: r) = v at *
    rw [hn']
    show Lib.signlessC (2 ^ (64 - 1)) (.ok v) = _
    unfold Lib.signlessC
    dsimp only
    rw [if_neg (by omega)]
/-- The library's two errors, where they lie. -/
structure Er (w : World) : Prop where
  syn : ∃ ev, w.cell? ⟨3, 0, none⟩ = some ev ∧ (ev = .nilIface ∨ ∃ te pe, ev = .iface te pe)
  rng : ∃ ev, w.cell? ⟨4, 0, none⟩ = some ev ∧ (ev = .nilIface ∨ ∃ te pe, ev = .iface te pe)
set_option maxRecDepth 20000 in
set_option maxHeartbeats 2000000 in
theorem prNumOf (x : ByteArray) (w : World) (hs : x.size ≤ 1000000) (hE : Er w) :
    Calls Tryz.prog 82 #[.string x] w fun e w' => ∃ z : Int, e = .returned (.int .i64 z) ∧ Below w.heap.size w w' ∧ Hid (∀ y, Lib.parseIntB 64 x.data.toList = .ok y → z = y) := by
  cases hp : Lib.parseIntB 64 x.data.toList with
  | ok y =>
    have cP := mkHid ((Tryz.strconv_ParseInt_10_at64_ok x (by omega) y hp w).mono (fun e w' (h : _ ∧ (w' = w ∨ ∃ t, w' = Lib.bytesWorld w 5 t)) => (⟨h.1, by
      rcases h.2 with rfl | ⟨t, rfl⟩
      · exact Below.refl _ _
      · exact bytesWorld_below _ _ _⟩ : e = .returned (.tuple #[.int .i64 y, .nilIface]) ∧ Below w.heap.size w w')))
    clear hp hE
    go_enter Tryz.func82, Tryz.ntmps82
    go_wp2_with (go_at_call 97; fail)
    refine cP.out.mono ?_
    rintro e w1 ⟨rfl, hb⟩
    go_wp2
    go_ret
    exact ⟨y, rfl, hb, fun y' h => by cases h; rfl⟩
  | «syntax» =>
    obtain ⟨ev, h1, h2⟩ := hE.syn
    have cP := mkHid (Tryz.strconv_ParseInt_10_at64_syntax x (by omega) hp ev w h1 h2)
    clear hp hE h1 h2
    go_enter Tryz.func82, Tryz.ntmps82
    go_wp2_with (go_at_call 97; fail)
    refine cP.out.mono ?_
    rintro e w1 ⟨N, rfl, -, -, hb⟩
    go_wp2
    go_ret
    exact ⟨0, rfl, hb, fun y' h => by cases h⟩
  | range =>
    obtain ⟨ev, h1, h2⟩ := hE.rng
    have cP := mkHid (Tryz.strconv_ParseInt_10_at64_range x (by omega) hp ev w h1 h2)
    clear hp hE h1 h2
    generalize Lib.intSat 64 x.data.toList = q at *
    go_enter Tryz.func82, Tryz.ntmps82
    go_wp2_with (go_at_call 97; fail)
    refine cP.out.mono ?_
    rintro e w1 ⟨N, rfl, -, -, hb⟩
    go_wp2
    go_ret
    exact ⟨0, rfl, hb, fun y' h => by cases h⟩
section
variable {g : Nat} {s : ByteArray} {l : List UInt8} {T : List Rf.Tk} {n kd : Nat} {x : List UInt8} {a : Nat} {v : Value} {E : List NdE} {w : World}
/-- Numbers have one to nine digits. -/
def GoodT (T : List Rf.Tk) : Prop := ∀ t ∈ T, t.kind = 110 → 1 ≤ t.text.length ∧ t.text.length ≤ 9 ∧ t.text.all Rf.digK = true
set_option maxRecDepth 20000 in
theorem GoodT.at (h : GoodT T) (n : Nat) (hn : n < T.length) (hk : Rf.kind T n = 110) : Lib.parseIntB 64 (Rf.text T n) = .ok (Rf.num (Rf.text T n) : Int) := by
  unfold Rf.kind at hk
  rw [List.getElem?_eq_getElem hn] at hk
  obtain ⟨h1, h2, h3⟩ := h _ (List.getElem_mem hn) hk
  have e : Rf.text T n = T[n].text := by unfold Rf.text; rw [List.getElem?_eq_getElem hn]; rfl
  rw [e]
  exact Rf.num_parse _ h3 (fun e => by rw [e] at h1; simp at h1) h2
set_option maxRecDepth 20000 in
set_option maxHeartbeats 4000000 in
theorem prNumber (h : Ps g s l T n kd x a v E w) (hl : s.data.toList = l) (hs : s.size ≤ 100000) (hE : Er w) (hT : GoodT T) (m : Nat) :
    Calls Tryz.prog 57 #[scp g, .int .i64 (m : Int)] w fun e w' => Ef g none w w' ∧ (((Rf.kind T n == 110 && decide (Rf.num (Rf.text T n) ≤ m)) = false ∧ e = faultAt (Rf.pos T n)) ∨ ((Rf.kind T n == 110 && decide (Rf.num (Rf.text T n) ≤ m)) = true ∧ ((∃ kd' x' a', e = .returned (.int .i64 (Rf.num (Rf.text T n) : Int)) ∧ Ps g s l T (n + 1) kd' x' a' v E w') ∨ Xf T (n + 1) e))) := by
  have c4 := h.sc.c4
  have hxs : x.length ≤ 100000 := by have := h.cur.small; have : l.length = s.size := by rw [← hl]; simp
                                     omega
  have kM := mkHid (prNumOf ⟨x.toArray⟩ w (by simp [ByteArray.size]; omega) hE)
  have hxx : (⟨x.toArray⟩ : ByteArray).data.toList = x := by simp
  rw [hxx] at kM
  obtain ⟨xb, hxb⟩ : ∃ xb : ByteArray, ⟨x.toArray⟩ = xb := ⟨_, rfl⟩
  rw [hxb] at c4 kM
  have hkk := h.cur.kd_eq 2 (.inl rfl)
  rw [if_pos rfl] at hkk
  have hint : ((kd : Int) == 2) = (Rf.kind T n == 110) := by
    rw [← hkk, Bool.eq_iff_iff, beq_iff_eq, beq_iff_eq]
    omega
  have H := mkHid h
  have kN := mkHid (fun (W : World) (h : Ps g s l T n kd x a v E W) => scNeedNo g s a (Rf.pos T n) W h.sc)
  have kY := mkHid (fun (W : World) => scNeedYes g W)
  have eB := mkHid (fun (W : World) (h : Below w.heap.size w W) => Ef.of_below (g := g) (r := none) h)
  have hval : Hid (Rf.kind T n = 110 → Lib.parseIntB 64 x = .ok (Rf.num (Rf.text T n) : Int)) := fun hk => by
    rw [h.cur.num hk]
    exact hT.at n h.cur.lt hk
  clear h hxb hE hT hxs hxx hkk
  go_enter Tryz.func57, Tryz.ntmps57
  go_wp2_with (go_at_call 82; fail)
  refine kM.out.mono ?_
  rintro e w1 ⟨z, rfl, hb1, hz⟩
  have bD : Below w1.heap.size w1 w1.drew := below_drew (Below.refl _ _)
  have H1 := mkHid ((H.out.below hb1).below bD)
  have eD := mkHid (eB.out _ (hb1.trans (bD.mono hb1.size)))
  have c3 := H1.out.sc.c3
  clear kM hb1 bD c4
  cases hy : (Rf.kind T n == 110)
  · rw [hy] at hint
    go_wp2
    refine wp_region_any (by kernel_rfl) ?_
    refine wpAny_take (i := 0) (v := scp g) rfl (by kernel_rfl) (by kernel_rfl) (by kernel_rfl) (fun _ _ _ h => h) (Or.inl ⟨by rfl, ?_⟩) ?_
    · intro w
      go_simp
      all_goals first | done | (intro h; exfalso; omega) | omega
    go_simp
    refine wpAny_take (i := 1) (v := .pointer (some ⟨g, 0, none⟩)) rfl (by kernel_rfl) (by kernel_rfl) (by kernel_rfl) (fun _ _ _ h => h) (Or.inl ⟨by rfl, ?_⟩) ?_
    · intro w
      go_simp
      all_goals first | done | (intro h; exfalso; omega) | omega
    go_simp
    refine wpAny_take (i := 2) (v := .pointer (some ⟨g, 0, none⟩)) rfl (by kernel_rfl) (by kernel_rfl) (by kernel_rfl) (fun _ _ _ h => h) (Or.inl ⟨by rfl, ?_⟩) ?_
    · intro w
      go_simp
      all_goals first | done | (intro h; exfalso; omega) | omega
    go_simp
    refine wpAny_take (i := 3) (v := scp g) rfl (by kernel_rfl) (by kernel_rfl) (by kernel_rfl) (fun _ _ _ h => h) (Or.inl ⟨by rfl, ?_⟩) ?_
    · intro w
      go_simp
      all_goals first | done | (intro h; exfalso; omega) | omega
    go_simp
    refine wpAny_take (i := 4) (v := .pointer (some ⟨g, 0, none⟩)) rfl (by kernel_rfl) (by kernel_rfl) (by kernel_rfl) (fun _ _ _ h => h) (Or.inl ⟨by rfl, ?_⟩) ?_
    · intro w
      go_simp
      all_goals first | done | (intro h; exfalso; omega) | omega
    go_simp
    refine wpAny_take (i := 5) (v := .pointer (some ⟨g, 3, none⟩)) rfl (by kernel_rfl) (by kernel_rfl) (by kernel_rfl) (fun _ _ _ h => h) (Or.inl ⟨by rfl, ?_⟩) ?_
    · intro w
      go_simp
      all_goals first | done | (intro h; exfalso; omega) | omega
    go_simp
    refine wpAny_take (i := 6) (v := .pointer (some ⟨g, 3, none⟩)) rfl (by kernel_rfl) (by kernel_rfl) (by kernel_rfl) (fun _ _ _ h => h) (Or.inl ⟨by rfl, ?_⟩) ?_
    · intro w
      go_simp
      all_goals first | done | (intro h; exfalso; omega) | omega
    go_simp
    refine wpAny_ready (rs := [7]) (by kernel_rfl) (by simp) ?_
    refine AllReady.cons rfl (fun K hK => ?_) AllReady.nil
    go_simp
    refine hK _ _ ?_
    clear hK K
    go_simp
    refine wpAny_take (i := 8) (v := .bool false) rfl (by kernel_rfl) (by kernel_rfl) (by kernel_rfl) (fun _ _ _ h => h) (Or.inl ⟨by rfl, ?_⟩) ?_
    · intro w
      go_simp
      all_goals first | done | (intro h; exfalso; omega) | omega
    go_simp
    refine wpAny_take (i := 9) (v := .bool false) rfl (by kernel_rfl) (by kernel_rfl) (by kernel_rfl) (fun _ _ _ h => h) (Or.inl ⟨by rfl, ?_⟩) ?_
    · intro w
      go_simp
      all_goals first | done | (intro h; exfalso; omega) | omega
    go_simp
    refine wpAny_take (i := 10) (v := undef) rfl (by kernel_rfl) (by kernel_rfl) (by kernel_rfl) (fun _ _ _ h => h) (Or.inr ⟨by rfl, rfl⟩) ?_
    go_simp
    refine wpAny_take (i := 11) (v := undef) rfl (by kernel_rfl) (by kernel_rfl) (by kernel_rfl) (fun _ _ _ h => h) (Or.inr ⟨by rfl, rfl⟩) ?_
    go_simp
    refine wpAny_take (i := 12) (v := undef) rfl (by kernel_rfl) (by kernel_rfl) (by kernel_rfl) (fun _ _ _ h => h) (Or.inr ⟨by rfl, rfl⟩) ?_
    go_simp
    refine wpAny_take (i := 13) (v := .bool false) rfl (by kernel_rfl) (by kernel_rfl) (by kernel_rfl) (fun _ _ _ h => h) (Or.inl ⟨by rfl, ?_⟩) ?_
    · intro w
      go_simp
      all_goals first | done | (intro h; exfalso; omega) | omega
    go_simp
    refine wpAny_ready (rs := [14]) (by kernel_rfl) (by simp) ?_
    refine AllReady.cons rfl (fun K hK => ?_) AllReady.nil
    go_simp
    refine (kN.out _ H1.out).mono ?_
    rintro e w2 ⟨rfl, rfl⟩
    go_simp
    exact ⟨rfl, eD.out, .inl ⟨by rw [hy]; rfl, rfl⟩⟩
  · rw [hy] at hint
    have hk : Rf.kind T n = 110 := by simpa using hy
    obtain rfl : z = (Rf.num (Rf.text T n) : Int) := hz.out _ (hval.out hk)
    clear hval hz
    obtain ⟨q, hq⟩ : ∃ q, Rf.num (Rf.text T n) = q := ⟨_, rfl⟩
    simp only [hq]
    have Hk := mkHid hk
    have Hq := mkHid hq
    have Hy := mkHid hy
    clear hk hq hy
    by_cases hm : q ≤ m
    · have dm : decide ((q : Int) ≤ (m : Int)) = true := decide_eq_true (by omega)
      have kA := mkHid (H1.out.adv hl hs (by rw [Hk.out]; decide) (by rw [Hk.out]; decide))
      go_wp2
      refine wp_region_any (by kernel_rfl) ?_
      refine wpAny_take (i := 0) (v := scp g) rfl (by kernel_rfl) (by kernel_rfl) (by kernel_rfl) (fun _ _ _ h => h) (Or.inl ⟨by rfl, ?_⟩) ?_
      · intro w
        go_simp
        all_goals first | done | (intro h; exfalso; omega) | omega
      go_simp
      refine wpAny_take (i := 1) (v := .pointer (some ⟨g, 0, none⟩)) rfl (by kernel_rfl) (by kernel_rfl) (by kernel_rfl) (fun _ _ _ h => h) (Or.inl ⟨by rfl, ?_⟩) ?_
      · intro w
        go_simp
        all_goals first | done | (intro h; exfalso; omega) | omega
      go_simp
      refine wpAny_take (i := 2) (v := .pointer (some ⟨g, 0, none⟩)) rfl (by kernel_rfl) (by kernel_rfl) (by kernel_rfl) (fun _ _ _ h => h) (Or.inl ⟨by rfl, ?_⟩) ?_
      · intro w
        go_simp
        all_goals first | done | (intro h; exfalso; omega) | omega
      go_simp
      refine wpAny_take (i := 3) (v := scp g) rfl (by kernel_rfl) (by kernel_rfl) (by kernel_rfl) (fun _ _ _ h => h) (Or.inl ⟨by rfl, ?_⟩) ?_
      · intro w
        go_simp
        all_goals first | done | (intro h; exfalso; omega) | omega
      go_simp
      refine wpAny_take (i := 4) (v := .pointer (some ⟨g, 0, none⟩)) rfl (by kernel_rfl) (by kernel_rfl) (by kernel_rfl) (fun _ _ _ h => h) (Or.inl ⟨by rfl, ?_⟩) ?_
      · intro w
        go_simp
        all_goals first | done | (intro h; exfalso; omega) | omega
      go_simp
      refine wpAny_take (i := 5) (v := .pointer (some ⟨g, 3, none⟩)) rfl (by kernel_rfl) (by kernel_rfl) (by kernel_rfl) (fun _ _ _ h => h) (Or.inl ⟨by rfl, ?_⟩) ?_
      · intro w
        go_simp
        all_goals first | done | (intro h; exfalso; omega) | omega
      go_simp
      refine wpAny_take (i := 6) (v := .pointer (some ⟨g, 3, none⟩)) rfl (by kernel_rfl) (by kernel_rfl) (by kernel_rfl) (fun _ _ _ h => h) (Or.inl ⟨by rfl, ?_⟩) ?_
      · intro w
        go_simp
        all_goals first | done | (intro h; exfalso; omega) | omega
      go_simp
      refine wpAny_ready (rs := [7]) (by kernel_rfl) (by simp) ?_
      refine AllReady.cons rfl (fun K hK => ?_) AllReady.nil
      go_simp
      refine hK _ _ ?_
      clear hK K
      go_simp
      refine wpAny_take (i := 8) (v := .bool true) rfl (by kernel_rfl) (by kernel_rfl) (by kernel_rfl) (fun _ _ _ h => h) (Or.inl ⟨by rfl, ?_⟩) ?_
      · intro w
        go_simp
        all_goals first | done | (intro h; exfalso; omega) | omega
      go_simp
      refine wpAny_take (i := 9) (v := .bool true) rfl (by kernel_rfl) (by kernel_rfl) (by kernel_rfl) (fun _ _ _ h => h) (Or.inl ⟨by rfl, ?_⟩) ?_
      · intro w
        go_simp
        all_goals first | done | (intro h; exfalso; omega) | omega
      go_simp
      refine wpAny_take (i := 10) (v := .int .i64 (q : Int)) rfl (by kernel_rfl) (by kernel_rfl) (by kernel_rfl) (fun _ _ _ h => h) (Or.inl ⟨by rfl, ?_⟩) ?_
      · intro w
        go_simp
        all_goals first | done | (intro h; exfalso; omega) | omega
      go_simp
      refine wpAny_take (i := 11) (v := .int .i64 (m : Int)) rfl (by kernel_rfl) (by kernel_rfl) (by kernel_rfl) (fun _ _ _ h => h) (Or.inl ⟨by rfl, ?_⟩) ?_
      · intro w
        go_simp
        all_goals first | done | (intro h; exfalso; omega) | omega
      go_simp
      refine wpAny_take (i := 12) (v := .bool true) rfl (by kernel_rfl) (by kernel_rfl) (by kernel_rfl) (fun _ _ _ h => h) (Or.inl ⟨by rfl, ?_⟩) ?_
      · intro w
        go_simp
        all_goals first | done | (intro h; exfalso; omega) | omega
      go_simp
      refine wpAny_take (i := 13) (v := .bool true) rfl (by kernel_rfl) (by kernel_rfl) (by kernel_rfl) (fun _ _ _ h => h) (Or.inl ⟨by rfl, ?_⟩) ?_
      · intro w
        go_simp
        all_goals first | done | (intro h; exfalso; omega) | omega
      go_simp
      refine wpAny_ready (rs := [14]) (by kernel_rfl) (by simp) ?_
      refine AllReady.cons rfl (fun K hK => ?_) AllReady.nil
      go_simp
      refine (kY.out _).mono ?_
      rintro e w3 ⟨rfl, rfl⟩
      go_simp
      refine hK _ _ ?_
      clear hK K
      go_simp
      refine wpAny_done (by kernel_rfl) ?_ _
      go_wp2_with (go_at_call 34; fail)
      refine kA.out.mono ?_
      rintro e w3 ⟨e3, ⟨kd', x', a', rfl, h3⟩ | ⟨m1, m2, rfl⟩⟩
      · replace h3 := mkHid h3
        replace e3 := mkHid (eD.out.trans0 e3)
        go_wp2
        go_ret
        exact ⟨e3.out, .inr ⟨by rw [Hy.out, Hq.out, decide_eq_true hm]; rfl, .inl ⟨kd', x', a', congrArg (fun z : Nat => Ending.returned (.int .i64 (z : Int))) Hq.out.symm, h3.out⟩⟩⟩
      · exact ⟨rfl, eD.out.trans0 e3, .inr ⟨by rw [Hy.out, Hq.out, decide_eq_true hm]; rfl, .inr ⟨m1, m2, rfl⟩⟩⟩
    · have dm : decide ((q : Int) ≤ (m : Int)) = false := decide_eq_false (by omega)
      go_wp2
      refine wp_region_any (by kernel_rfl) ?_
      refine wpAny_take (i := 0) (v := scp g) rfl (by kernel_rfl) (by kernel_rfl) (by kernel_rfl) (fun _ _ _ h => h) (Or.inl ⟨by rfl, ?_⟩) ?_
      · intro w
        go_simp
        all_goals first | done | (intro h; exfalso; omega) | omega
      go_simp
      refine wpAny_take (i := 1) (v := .pointer (some ⟨g, 0, none⟩)) rfl (by kernel_rfl) (by kernel_rfl) (by kernel_rfl) (fun _ _ _ h => h) (Or.inl ⟨by rfl, ?_⟩) ?_
      · intro w
        go_simp
        all_goals first | done | (intro h; exfalso; omega) | omega
      go_simp
      refine wpAny_take (i := 2) (v := .pointer (some ⟨g, 0, none⟩)) rfl (by kernel_rfl) (by kernel_rfl) (by kernel_rfl) (fun _ _ _ h => h) (Or.inl ⟨by rfl, ?_⟩) ?_
      · intro w
        go_simp
        all_goals first | done | (intro h; exfalso; omega) | omega
      go_simp
      refine wpAny_take (i := 3) (v := scp g) rfl (by kernel_rfl) (by kernel_rfl) (by kernel_rfl) (fun _ _ _ h => h) (Or.inl ⟨by rfl, ?_⟩) ?_
      · intro w
        go_simp
        all_goals first | done | (intro h; exfalso; omega) | omega
      go_simp
      refine wpAny_take (i := 4) (v := .pointer (some ⟨g, 0, none⟩)) rfl (by kernel_rfl) (by kernel_rfl) (by kernel_rfl) (fun _ _ _ h => h) (Or.inl ⟨by rfl, ?_⟩) ?_
      · intro w
        go_simp
        all_goals first | done | (intro h; exfalso; omega) | omega
      go_simp
      refine wpAny_take (i := 5) (v := .pointer (some ⟨g, 3, none⟩)) rfl (by kernel_rfl) (by kernel_rfl) (by kernel_rfl) (fun _ _ _ h => h) (Or.inl ⟨by rfl, ?_⟩) ?_
      · intro w
        go_simp
        all_goals first | done | (intro h; exfalso; omega) | omega
      go_simp
      refine wpAny_take (i := 6) (v := .pointer (some ⟨g, 3, none⟩)) rfl (by kernel_rfl) (by kernel_rfl) (by kernel_rfl) (fun _ _ _ h => h) (Or.inl ⟨by rfl, ?_⟩) ?_
      · intro w
        go_simp
        all_goals first | done | (intro h; exfalso; omega) | omega
      go_simp
      refine wpAny_ready (rs := [7]) (by kernel_rfl) (by simp) ?_
      refine AllReady.cons rfl (fun K hK => ?_) AllReady.nil
      go_simp
      refine hK _ _ ?_
      clear hK K
      go_simp
      refine wpAny_take (i := 8) (v := .bool true) rfl (by kernel_rfl) (by kernel_rfl) (by kernel_rfl) (fun _ _ _ h => h) (Or.inl ⟨by rfl, ?_⟩) ?_
      · intro w
        go_simp
        all_goals first | done | (intro h; exfalso; omega) | omega
      go_simp
      refine wpAny_take (i := 9) (v := .bool true) rfl (by kernel_rfl) (by kernel_rfl) (by kernel_rfl) (fun _ _ _ h => h) (Or.inl ⟨by rfl, ?_⟩) ?_
      · intro w
        go_simp
        all_goals first | done | (intro h; exfalso; omega) | omega
      go_simp
      refine wpAny_take (i := 10) (v := .int .i64 (q : Int)) rfl (by kernel_rfl) (by kernel_rfl) (by kernel_rfl) (fun _ _ _ h => h) (Or.inl ⟨by rfl, ?_⟩) ?_
      · intro w
        go_simp
        all_goals first | done | (intro h; exfalso; omega) | omega
      go_simp
      refine wpAny_take (i := 11) (v := .int .i64 (m : Int)) rfl (by kernel_rfl) (by kernel_rfl) (by kernel_rfl) (fun _ _ _ h => h) (Or.inl ⟨by rfl, ?_⟩) ?_
      · intro w
        go_simp
        all_goals first | done | (intro h; exfalso; omega) | omega
      go_simp
      refine wpAny_take (i := 12) (v := .bool false) rfl (by kernel_rfl) (by kernel_rfl) (by kernel_rfl) (fun _ _ _ h => h) (Or.inl ⟨by rfl, ?_⟩) ?_
      · intro w
        go_simp
        all_goals first | done | (intro h; exfalso; omega) | omega
      go_simp
      refine wpAny_take (i := 13) (v := .bool false) rfl (by kernel_rfl) (by kernel_rfl) (by kernel_rfl) (fun _ _ _ h => h) (Or.inl ⟨by rfl, ?_⟩) ?_
      · intro w
        go_simp
        all_goals first | done | (intro h; exfalso; omega) | omega
      go_simp
      refine wpAny_ready (rs := [14]) (by kernel_rfl) (by simp) ?_
      refine AllReady.cons rfl (fun K hK => ?_) AllReady.nil
      go_simp
      refine (kN.out _ H1.out).mono ?_
      rintro e w2 ⟨rfl, rfl⟩
      go_simp
      exact ⟨rfl, eD.out, .inl ⟨by rw [Hy.out, Hq.out, decide_eq_false hm]; rfl, rfl⟩⟩
end
end Go.Proofs.YtlphojaeaogehaaGreatDoor
namespace Go.Proofs.YtlphojaeaogehaaGreatDoor
open Go.RowKit Go.Lib Go.Maps
def marr : Array Value := #[.string ⟨#[58, 105, 115]⟩, .string ⟨#[58, 99, 111, 110, 116, 97, 105, 110, 115]⟩, .string ⟨#[58, 109, 97, 116, 99, 104, 101, 115]⟩]
def mwT : Nat → List UInt8
  | 0 => Rf.wIs
  | 1 => Rf.wContains
  | 2 => Rf.wMatches
  | _ => []
set_option maxRecDepth 20000 in
theorem mw_at (i : Nat) (hi : i < 3) (w : World) : (Instr.index 107 (.agg marr) (.int .i64 i)).run Tryz.prog w = .ok (.string ⟨(mwT i).toArray⟩) w := by
  rcases (show i = 0 ∨ i = 1 ∨ i = 2 by omega) with rfl | rfl | rfl <;> kernel_rfl
/-- The table of matches, where it lies. -/
def MTab (w : World) : Prop := ∃ t fr, w.heap[2]? = some (.cells marr t fr)
set_option maxRecDepth 20000 in
theorem mw_cls (i : Nat) (hi : i < 3) : Rf.cls (mwT i) = 58 := by
  rcases (show i = 0 ∨ i = 1 ∨ i = 2 by omega) with rfl | rfl | rfl <;> rfl
section
variable {g : Nat} {s : ByteArray} {l : List UInt8} {T : List Rf.Tk} {n kd : Nat} {x : List UInt8} {a : Nat} {v : Value} {E : List NdE} {w : World}
set_option maxRecDepth 20000 in
theorem matchOf_at (T : List Rf.Tk) (n i : Nat) (hi : i < 3) (h1 : ∀ j, j < i → Rf.is T n 58 (mwT j) = false) (h2 : Rf.is T n 58 (mwT i) = true) : Rf.matchOf T n = some (i : Int) := by
  unfold Rf.matchOf
  rcases (show i = 0 ∨ i = 1 ∨ i = 2 by omega) with rfl | rfl | rfl
  · have b : Rf.is T n 58 Rf.wIs = true := h2
    rw [if_pos b]; rfl
  · have a0 : Rf.is T n 58 Rf.wIs = false := h1 0 (by omega)
    have b : Rf.is T n 58 Rf.wContains = true := h2
    rw [if_neg (Bool.eq_false_iff.1 a0), if_pos b]; rfl
  · have a0 : Rf.is T n 58 Rf.wIs = false := h1 0 (by omega)
    have a1 : Rf.is T n 58 Rf.wContains = false := h1 1 (by omega)
    have b : Rf.is T n 58 Rf.wMatches = true := h2
    rw [if_neg (Bool.eq_false_iff.1 a0), if_neg (Bool.eq_false_iff.1 a1), if_pos b]; rfl
set_option maxRecDepth 20000 in
theorem matchOf_no (T : List Rf.Tk) (n : Nat) (h1 : ∀ j, j < 3 → Rf.is T n 58 (mwT j) = false) : Rf.matchOf T n = none := by
  have a0 : Rf.is T n 58 Rf.wIs = false := h1 0 (by omega)
  have a1 : Rf.is T n 58 Rf.wContains = false := h1 1 (by omega)
  have a2 : Rf.is T n 58 Rf.wMatches = false := h1 2 (by omega)
  unfold Rf.matchOf
  rw [if_neg (Bool.eq_false_iff.1 a0), if_neg (Bool.eq_false_iff.1 a1), if_neg (Bool.eq_false_iff.1 a2)]
set_option maxRecDepth 20000 in
set_option maxHeartbeats 4000000 in
theorem prMatch (h : Ps g s l T n kd x a v E w) (hl : s.data.toList = l) (hs : s.size ≤ 100000) (hM : MTab w) :
    Calls Tryz.prog 95 #[scp g] w fun e w' => Ef g none w w' ∧ ((Rf.matchOf T n = none ∧ e = faultAt (Rf.pos T n)) ∨ (∃ k : Int, Rf.matchOf T n = some k ∧ ((∃ kd' x' a', e = .returned (.int .i64 k) ∧ Ps g s l T (n + 1) kd' x' a' v E w') ∨ Xf T (n + 1) e))) := by
  have H := mkHid h
  obtain ⟨tm, fr, hM⟩ := hM
  have HM := mkHid hM
  clear h hM
  go_enter Tryz.func95, Tryz.ntmps95
  go_wp2_with (first | (refine wpL_load_row rfl 107 _ rfl 2 _ tm fr _ rfl HM.out Tryz.underlying107 rfl (by kernel_rfl) ?_) | go_in)
  go_loopw [6] (fun u wr => ∃ i : Nat, u = .int .i64 i ∧ i ≤ 3 ∧ Hid (∀ j, j < i → Rf.is T n 58 (mwT j) = false) ∧ Hid (Ps g s l T n kd x a v E wr) ∧ Hid (Ef g none w wr)) (fun u _ => 3 - (Lib.intOf u).toNat)
  case atStart => exact ⟨0, rfl, by omega, fun j hj => absurd hj (Nat.not_lt_zero _), H, Ef.refl2 _ _ _⟩
  case round =>
    clear H
    obtain ⟨i, rfl, hi3, hno, H, He⟩ := hrel
    by_cases hi : i < 3
    · have f1 : (i : Int) < 3 := by omega
      have hix := fun w => mw_at i hi w
      have hcl := mw_cls i hi
      have kT := mkHid (prTakes H.out hl hs (mwT i) (by rw [hcl]; decide) (by rw [hcl]; decide))
      rw [hcl] at kT
      have hmt := mkHid (matchOf_at T n i hi hno.out)
      have hnx : Hid (Rf.is T n 58 (mwT i) = false → ∀ j, j < i + 1 → Rf.is T n 58 (mwT j) = false) := fun h0 j hj => by
        by_cases hji : j < i
        · exact hno.out j hji
        · obtain rfl : j = i := by omega
          exact h0
      clear hcl
      generalize (⟨(mwT i).toArray⟩ : ByteArray) = t at *
      go_wp2_with (go_at_call 81; fail)
      refine kT.out.mono ?_
      rintro e w1 ⟨e1, ⟨h0, rfl, h1⟩ | ⟨h0, ⟨kd', x', a', rfl, h1⟩ | ⟨m1, m2, rfl⟩⟩⟩
      · replace h1 := mkHid h1
        replace e1 := mkHid (He.out.trans0 e1)
        replace hnx := mkHid (hnx.out h0)
        clear kT h0
        go_wp2
        go_roundw
        case rel => exact ⟨i + 1, by go_num, by omega, hnx, h1, e1⟩
        case measure => simp [Lib.intOf]; omega
      · replace h1 := mkHid h1
        replace e1 := mkHid (He.out.trans0 e1)
        replace hmt := mkHid (hmt.out h0)
        clear kT h0
        go_wp2
        go_ret
        exact ⟨e1.out, .inr ⟨(i : Int), hmt.out, .inl ⟨kd', x', a', rfl, h1.out⟩⟩⟩
      · exact ⟨rfl, He.out.trans0 e1, .inr ⟨(i : Int), hmt.out h0, .inr ⟨m1, m2, rfl⟩⟩⟩
    · obtain rfl : i = 3 := by omega
      have hn := mkHid (matchOf_no T n hno.out)
      have kF := mkHid (scFail g s a (Rf.pos T n) wr H.out.sc)
      go_wp2_with (go_at_call 83; fail)
      refine kF.out.mono ?_
      rintro e w1 ⟨rfl, rfl⟩
      exact ⟨rfl, He.out, .inl ⟨hn.out, rfl⟩⟩
/-- What comes of a reading of texts. -/
def TxO (g : Nat) (s : ByteArray) (l : List UInt8) (T : List Rf.Tk) (v : Value) (E : List NdE) (B : Nat) (r : Rf.TO) (e : Ending) (w' : World) : Prop :=
  match r with
  | .ok n' M => (∃ o c kd' x' a', e = .returned (.slice o M.length c) ∧ OwnX B (.slice o M.length c) M w' ∧ Ps g s l T n' kd' x' a' v E w') ∨ Xf T n' e
  | .bad j => e = faultAt (Rf.pos T j)
set_option maxRecDepth 20000 in
theorem OwnX.ef {B g : Nat} {u : Value} {M : List ByteArray} {w w' : World} (h : OwnX B u M w) (he : Ef g none w w') (hg : g < B) : OwnX B u M w' := own_keep1 h fun k hk => he.keep k (World.ownsRow.lt h k hk).2 (by have := (World.ownsRow.lt h k hk).1; omega) (by simp)
set_option maxRecDepth 20000 in
theorem Nt.ef {g : Nat} {v : Value} {E : List NdE} {w w' : World} (h : Nt (g + 1) v E w) (he : Ef g none w w') : Nt (g + 1) v E w' := by
  have key : ∀ (x : Value), (∀ k, x.ownBlock = some k → g + 1 ≤ k ∧ k < w.heap.size) → ∀ k, x.ownBlock = some k → w'.heap[k]? = w.heap[k]? := fun x hx k hk => he.keep k (hx k hk).2 (by have := (hx k hk).1; omega) (by simp)
  exact ⟨own_keep1 h.row (key _ (World.ownsRow.lt h.row)), fun s hs => ⟨(h.own s hs).1, fun hn => own_keep1 ((h.own s hs).2 hn) (key _ (World.ownsRow.lt ((h.own s hs).2 hn)))⟩, h.sep, fun s hs => ⟨(h.ownN s hs).1, fun hn => own_keep1 ((h.ownN s hs).2 hn) (key _ (World.ownsRow.lt ((h.ownN s hs).2 hn)))⟩, h.sepN⟩
/-- A list of texts that is being read. -/
structure Tp (g : Nat) (s : ByteArray) (l : List UInt8) (T : List Rf.Tk) (v : Value) (E : List NdE) (w : World) (m : Nat) (out : Value) (L : List ByteArray) (wr : World) : Prop where
  ps : ∃ kd x a, Ps g s l T m kd x a v E wr
  ef : Ef g none w wr
  own : OwnX w.heap.size out L wr
set_option maxRecDepth 20000 in
theorem Tp.step {g : Nat} {s : ByteArray} {l : List UInt8} {T : List Rf.Tk} {v : Value} {E : List NdE} {w wr w1 : World} {m m' kd a : Nat} {x : List UInt8} {out : Value} {L : List ByteArray} (h : Tp g s l T v E w m out L wr) (hgl : g < w.heap.size) (h1 : Ps g s l T m' kd x a v E w1) (e1 : Ef g none wr w1) : Tp g s l T v E w m' out L w1 :=
  ⟨⟨kd, x, a, h1⟩, h.ef.trans0 e1, h.own.ef e1 hgl⟩
set_option maxRecDepth 20000 in
theorem Tp.app {g : Nat} {s : ByteArray} {l : List UInt8} {T : List Rf.Tk} {v : Value} {E : List NdE} {w wr w2 : World} {m : Nat} {out out' : Value} {L L' : List ByteArray} {obj : Obj} (h : Tp g s l T v E w m out L wr) (h0 : Nt (g + 1) v E w) (hgl : g < w.heap.size) (hO : OwnX w.heap.size out' L' w2) (hg : (wr.alloc obj).grownBy w2 out.ownBlock) : Tp g s l T v E w m out' L' w2 := by
  obtain ⟨e, hb⟩ := h.ef.app hg (fun k hk => (World.ownsRow.lt h.own k hk).1) hgl
  obtain ⟨kd, x, a, hp⟩ := h.ps
  exact ⟨⟨kd, x, a, ⟨by rw [hb]; exact hp.sc.blk⟩, hp.cur, h0.ef e⟩, e, hO⟩
set_option maxRecDepth 20000 in
theorem is_x {T : List Rf.Tk} {m : Nat} (h : Rf.kind T m = 120) (k : Nat) (hk : k ≠ 120) (t : List UInt8) : Rf.is T m k t = false := by
  unfold Rf.is
  rw [h, show ((120 : Nat) == k) = false from beq_eq_false_iff_ne.2 (fun e => hk e.symm)]
  rfl
set_option maxRecDepth 20000 in
theorem tail_x {T : List Rf.Tk} {m : Nat} (h : Rf.kind T m = 120) (f : Nat) (L : List ByteArray) : Rf.txtsTail T f m L = .bad m := by
  cases f with
  | zero => rfl
  | succ f => rw [Rf.txtsTail, is_x h 112 (by decide), is_x h 112 (by decide)]; rfl
set_option maxRecDepth 20000 in
theorem TxO.ofX {B : Nat} {e : Ending} {w' : World} {m : Nat} {R : Rf.TO} (hx : Xf T m e) (hR : R = .bad m) : TxO g s l T v E B R e w' := by
  rw [hR]; exact hx.2.2
set_option maxRecDepth 20000 in
set_option maxHeartbeats 4000000 in
theorem prListX (h : Ps g s l T n kd x a v E w) (hl : s.data.toList = l) (hs : s.size ≤ 100000) (hT : T.length ≤ 100000) :
    Calls Tryz.prog 101 #[scp g, .string ⟨#[93]⟩, .func (.func 61) #[scp g] #[]] w fun e w' => Ef g none w w' ∧ TxO g s l T v E w.heap.size (if Rf.kind T n == 116 then Rf.txtsTail T T.length (n + 1) [Rf.ba (Rf.text T n)] else .bad n) e w' := by
  have hgl := h.sc.lt
  have N0 := mkHid h.nt
  have kS := mkHid (prSaying h hl hs)
  have hEn : ∀ (args : Array Value) (w : World), (callFunc 61 args).run Tryz.prog w = .ok (.enter 61 args) w := Go.Proofs.enters_of Tryz.func61 (by kernel_rfl) rfl
  clear h
  obtain ⟨R, hR⟩ : ∃ R, (if (Rf.kind T n == 116) = true then Rf.txtsTail T T.length (n + 1) [Rf.ba (Rf.text T n)] else .bad n) = R := ⟨_, rfl⟩
  rw [hR]
  replace hR := mkHid hR
  go_enter Tryz.func101, Tryz.ntmps101
  go_wp2_with (go_at_call 61; fail)
  refine kS.out.mono ?_
  rintro e w1 ⟨e1, ⟨h0, rfl⟩ | ⟨h0, ⟨kd', x', a', rfl, h1⟩ | hx⟩⟩
  · refine ⟨rfl, e1, ?_⟩
    rw [← hR.out, if_neg (Bool.eq_false_iff.1 h0)]
    exact rfl
  · have hR1 := hR.out
    rw [if_pos (by rw [h0]; rfl)] at hR1
    obtain ⟨t, ht⟩ : ∃ t, Rf.ba (Rf.text T n) = t := ⟨_, rfl⟩
    rw [ht] at hR1 ⊢
    obtain ⟨W2, hW2⟩ : ∃ W2, w1.alloc (.cells #[.string t] 9) = W2 := ⟨_, rfl⟩
    have b2 : Below w1.heap.size w1 W2 := by rw [← hW2]; exact (Below.refl _ _).alloc (Nat.le_refl _) _
    have hs1 := e1.size
    have hO : OwnX w.heap.size (.slice (some ⟨w1.heap.size, 0, none⟩) 1 1) [t] W2 := by rw [← hW2]; exact ⟨rfl, .inr ⟨w1.heap.size, 1, _, rfl, e1.size, heap_alloc_at _ _, Nat.le_refl _, by unfold maxLen; omega, rfl, rfl⟩⟩
    have hlt := h1.cur.lt
    have S0 : Hid (∃ (m f : Nat) (L : List ByteArray), T.length - m ≤ T.length ∧ T.length ≤ m + f ∧ L.length ≤ m ∧ m < T.length ∧ Rf.txtsTail T f m L = R ∧ Tp g s l T v E w m (.slice (some ⟨w1.heap.size, 0, none⟩) 1 1) L W2) := ⟨n + 1, T.length, [t], by omega, by omega, by simp, h1.cur.lt, hR1, ⟨_, _, _, h1.below b2⟩, e1.trans0 (Ef.of_below b2), hO⟩
    have HW2 := mkHid hW2
    clear h0 h1 e1 b2 hO hW2 kS hR1 hlt ht hR
    go_wp2
    rw [HW2.out]
    clear HW2
    go_loopg [7] (T.length) (fun q ov wr => ∃ (m f : Nat) (L : List ByteArray), T.length - m ≤ q ∧ T.length ≤ m + f ∧ L.length ≤ m ∧ m < T.length ∧ Rf.txtsTail T f m L = R ∧ Tp g s l T v E w m ov L wr)
    case atStart => exact S0.out
    case round =>
      clear S0
      obtain ⟨m, f, L, hq, hmf, hLm, hmT, hRm, hP⟩ := hrel
      obtain ⟨o, cap, hshape⟩ := hP.own.shape
      subst hshape
      obtain ⟨f, rfl⟩ : ∃ f', f = f' + 1 := ⟨f - 1, by omega⟩
      have hRs := mkHid (show (if Rf.is T m 112 [44] = true then (if (Rf.kind T (m + 1) == 116) = true then Rf.txtsTail T f (m + 2) (L ++ [Rf.ba (Rf.text T (m + 1))]) else .bad (m + 1)) else if Rf.is T m 112 [93] = true then .ok (m + 1) L else .bad m) = R from hRm)
      obtain ⟨kd1, x1, a1, hp⟩ := hP.ps
      have kT := mkHid (prTakes hp hl hs [44] (by decide) (by decide))
      rw [show Rf.cls [44] = 112 from rfl] at kT
      have HP := mkHid hP
      clear hRm hP hp
      go_wp2_with (go_at_call 81; fail)
      refine kT.out.mono ?_
      rintro e w2 ⟨e2, ⟨h0, rfl, h2⟩ | ⟨h0, ⟨kd2, x2, a2, rfl, h2⟩ | hx⟩⟩
      · have hR2 := hRs.out
        rw [if_neg (Bool.eq_false_iff.1 h0)] at hR2
        have kG := mkHid (prSign h2 hl hs [93] (by decide) (by decide))
        rw [show Rf.cls [93] = 112 from rfl] at kG
        replace HP := mkHid (HP.out.step hgl h2 e2)
        replace hR2 := mkHid hR2
        clear kT h0 h2 e2 hRs
        go_wp2_with (go_at_call 62; fail)
        refine kG.out.mono ?_
        rintro e w3 ⟨e3, ⟨h0, rfl⟩ | ⟨h0, ⟨kd3, x3, a3, rfl, h3⟩ | hx⟩⟩
        · refine ⟨rfl, HP.out.ef.trans0 e3, ?_⟩
          rw [← hR2.out, if_neg (Bool.eq_false_iff.1 h0)]
          exact rfl
        · have hfin : Hid (Ef g none w w3 ∧ TxO g s l T v E w.heap.size R (.returned (.slice o L.length cap)) w3) := by
            refine ⟨HP.out.ef.trans0 e3, ?_⟩
            rw [← hR2.out, if_pos h0]
            exact .inl ⟨o, cap, kd3, x3, a3, rfl, HP.out.own.ef e3 hgl, h3⟩
          clear kG h0 h3 e3 hR2 HP
          go_wp2
          go_ret
          exact hfin.out
        · obtain ⟨m1, m2, rfl⟩ := hx
          refine ⟨rfl, HP.out.ef.trans0 e3, ?_⟩
          rw [← hR2.out, if_pos h0]
          exact .inr ⟨m1, m2, rfl⟩
      · have hR2 := hRs.out
        rw [if_pos h0] at hR2
        have kS := mkHid (prSaying h2 hl hs)
        replace HP := mkHid (HP.out.step hgl h2 e2)
        replace hR2 := mkHid hR2
        clear kT h0 h2 e2 hRs
        go_wp2_with (go_at_call 61; fail)
        refine kS.out.mono ?_
        rintro e w3 ⟨e3, ⟨h0, rfl⟩ | ⟨h0, ⟨kd3, x3, a3, rfl, h3⟩ | hx⟩⟩
        · refine ⟨rfl, HP.out.ef.trans0 e3, ?_⟩
          rw [← hR2.out, if_neg (Bool.eq_false_iff.1 h0)]
          exact rfl
        · have hR3 := hR2.out
          rw [if_pos (by rw [h0]; rfl)] at hR3
          have hlt := h3.cur.lt
          obtain ⟨t, ht⟩ : ∃ t, Rf.ba (Rf.text T (m + 1)) = t := ⟨_, rfl⟩
          rw [ht] at hR3 ⊢
          replace HP := mkHid (HP.out.step hgl h3 e3)
          replace hR3 := mkHid hR3
          clear kS h0 h3 e3 hR2 ht
          go_wp2_with (at_builtin; go_must (refine wp_appX rfl _ _ rfl w.heap.size (.slice o L.length cap) L rfl HP.out.own t 1 rfl (by omega) HP.out.ef.size ?_; intro v' w4 hown4 hg4; refine Hid.out ?_))
          refine mkHid ?_
          have HQ := mkHid (HP.out.app N0.out hgl hown4 hg4)
          clear hown4 hg4 HP
          go_wp2
          go_roundg (T.length - (m + 2))
          case measure => omega
          case rel => exact ⟨m + 2, f, L ++ [t], by omega, by omega, by simp; omega, hlt, hR3.out, HQ.out⟩
        · obtain ⟨m1, m2, rfl⟩ := hx
          refine ⟨rfl, HP.out.ef.trans0 e3, TxO.ofX ⟨m1, m2, rfl⟩ ?_⟩
          rw [← hR2.out, if_pos (by rw [h0]; rfl), tail_x m2]
      · obtain ⟨m1, m2, rfl⟩ := hx
        refine ⟨rfl, HP.out.ef.trans0 e2, TxO.ofX ⟨m1, m2, rfl⟩ ?_⟩
        rw [← hRs.out, if_pos h0, if_neg (by rw [m2]; decide)]
  · obtain ⟨m1, m2, rfl⟩ := hx
    refine ⟨rfl, e1, TxO.ofX ⟨m1, m2, rfl⟩ ?_⟩
    rw [← hR.out, if_pos (by rw [h0]; rfl), tail_x m2]
end
end Go.Proofs.YtlphojaeaogehaaGreatDoor
namespace Go.Proofs.YtlphojaeaogehaaGreatDoor
open Go.RowKit Go.Lib Go.Maps
section
variable {g : Nat} {s : ByteArray} {l : List UInt8} {T : List Rf.Tk} {n kd : Nat} {x : List UInt8} {a : Nat} {v : Value} {E : List NdE} {w : World}
set_option maxRecDepth 20000 in
theorem TxO.base {B B' : Nat} {R : Rf.TO} {e : Ending} {w' : World} (h : TxO g s l T v E B' R e w') (hB : B ≤ B') : TxO g s l T v E B R e w' := by
  cases R with
  | ok n' M =>
    rcases h with ⟨o, c, kd', x', a', e1, e2, e3⟩ | h
    · exact .inl ⟨o, c, kd', x', a', e1, own_base e2 hB, e3⟩
    · exact .inr h
  | bad j => exact h
set_option maxRecDepth 20000 in
set_option maxHeartbeats 4000000 in
theorem prTexts (h : Ps g s l T n kd x a v E w) (hl : s.data.toList = l) (hs : s.size ≤ 100000) (hT : T.length ≤ 100000) :
    Calls Tryz.prog 96 #[scp g] w fun e w' => Ef g none w w' ∧ TxO g s l T v E w.heap.size (Rf.txts T n) e w' := by
  have hgl := h.sc.lt
  have kT := mkHid (prTakes h hl hs [91] (by decide) (by decide))
  rw [show Rf.cls [91] = 112 from rfl] at kT
  clear h
  obtain ⟨R, hR⟩ : ∃ R, (if Rf.is T n 112 [91] = true then (if (Rf.kind T (n + 1) == 116) = true then Rf.txtsTail T T.length (n + 2) [Rf.ba (Rf.text T (n + 1))] else .bad (n + 1)) else if (Rf.kind T n == 116) = true then Rf.TO.ok (n + 1) [Rf.ba (Rf.text T n)] else .bad n) = R := ⟨_, rfl⟩
  rw [show Rf.txts T n = R from hR]
  replace hR := mkHid hR
  go_enter Tryz.func96, Tryz.ntmps96
  go_wp2_with (go_at_call 81; fail)
  refine kT.out.mono ?_
  rintro e w1 ⟨e1, ⟨h0, rfl, h1⟩ | ⟨h0, ⟨kd', x', a', rfl, h1⟩ | hx⟩⟩
  · have hR1 := hR.out
    rw [if_neg (Bool.eq_false_iff.1 h0)] at hR1
    replace hR1 := mkHid hR1
    have kS := mkHid (prSaying h1 hl hs)
    replace e1 := mkHid e1
    clear kT h0 h1 hR
    go_wp2_with (go_at_call 61; fail)
    refine kS.out.mono ?_
    rintro e w2 ⟨e2, ⟨h0, rfl⟩ | ⟨h0, ⟨kd', x', a', rfl, h2⟩ | hx⟩⟩
    · refine ⟨rfl, e1.out.trans0 e2, ?_⟩
      rw [← hR1.out, if_neg (Bool.eq_false_iff.1 h0)]
      exact rfl
    · obtain ⟨t, ht⟩ : ∃ t, Rf.ba (Rf.text T n) = t := ⟨_, rfl⟩
      obtain ⟨W2, hW2⟩ : ∃ W2, w2.alloc (.cells #[.string t] 9) = W2 := ⟨_, rfl⟩
      have b2 : Below w2.heap.size w2 W2 := by rw [← hW2]; exact (Below.refl _ _).alloc (Nat.le_refl _) _
      have hs1 := e1.out.size
      have hs2 := e2.size
      have hO : OwnX w.heap.size (.slice (some ⟨w2.heap.size, 0, none⟩) 1 1) [t] W2 := by rw [← hW2]; exact ⟨rfl, .inr ⟨w2.heap.size, 1, _, rfl, by omega, heap_alloc_at _ _, Nat.le_refl _, by unfold maxLen; omega, rfl, rfl⟩⟩
      have hfin : Hid (Ef g none w W2 ∧ TxO g s l T v E w.heap.size R (.returned (.slice (some ⟨w2.heap.size, 0, none⟩) 1 1)) W2) := by
        refine ⟨(e1.out.trans0 e2).trans0 (Ef.of_below b2), ?_⟩
        rw [← hR1.out, if_pos (by rw [h0]; rfl), ht]
        exact .inl ⟨_, _, kd', x', a', rfl, hO, h2.below b2⟩
      replace hW2 := mkHid hW2
      rw [ht]
      clear h0 h2 e1 e2 b2 hO hs1 hs2 kS hR1 ht
      go_wp2
      rw [hW2.out]
      go_ret
      exact hfin.out
    · obtain ⟨m1, m2, rfl⟩ := hx
      refine ⟨rfl, e1.out.trans0 e2, ?_⟩
      rw [← hR1.out, if_pos (by rw [h0]; rfl)]
      exact .inr ⟨m1, m2, rfl⟩
  · have hR1 := hR.out
    rw [if_pos h0] at hR1
    have kL := mkHid (prListX h1 hl hs hT)
    rw [hR1] at kL
    replace hR1 := mkHid hR1
    replace e1 := mkHid e1
    clear kT h0 h1 hR hR1
    go_wp2_with (go_at_call 101; fail)
    refine kL.out.mono ?_
    rintro e w2 ⟨e2, h2⟩
    have h3 := mkHid (h2.base e1.out.size)
    have e3 := mkHid (e1.out.trans0 e2)
    clear kL h2 e1 e2
    cases R with
    | ok n' M =>
      rcases h3.out with ⟨o, c, kd2, x2, a2, rfl, h4⟩ | ⟨m1, m2, rfl⟩
      · clear h4
        go_wp2
        go_ret
        exact ⟨e3.out, h3.out⟩
      · exact ⟨rfl, e3.out, .inr ⟨m1, m2, rfl⟩⟩
    | bad j =>
      obtain rfl : e = _ := h3.out
      exact ⟨rfl, e3.out, rfl⟩
  · obtain ⟨m1, m2, rfl⟩ := hx
    refine ⟨rfl, e1, TxO.ofX ⟨m1, m2, rfl⟩ ?_⟩
    rw [← hR.out, if_pos h0, if_neg (by rw [m2]; decide)]
end
end Go.Proofs.YtlphojaeaogehaaGreatDoor
