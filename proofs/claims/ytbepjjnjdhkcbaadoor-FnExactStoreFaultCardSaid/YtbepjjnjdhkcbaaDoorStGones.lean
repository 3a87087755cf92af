
/- The program's test of a box's mails that are gone. -/
import Derived.Test.YtbepjjnjdhkcbaaDoorStMails
import Derived.Test.YtbepjjnjdhkcbaaDoorSpecBox
namespace Go.Proofs.YtbepjjnjdhkcbaaDoor
open Go.RowKit Go.Lib Go.Maps
namespace St
def gonesOk (b : GMailbox) : Bool := decide (b.gones.length ≤ 300) && okGones b.nextUid b.topMod b.mails 1 [] b.gones
def taken (M : List GMail) (P : List GGone) (z : Int) : Bool := (M.map (·.uid)).any (· == z) || P.any (fun g => g.uid == z)
set_option maxRecDepth 20000 in
theorem taken_eq (M : List GMail) (P : List GGone) (z : Int) : taken M P z = (hasUid z M || P.any (fun g => g.uid == z)) := by
  unfold taken hasUid
  rw [List.any_map]
  rfl
set_option maxRecDepth 20000 in
theorem okGone_eq (nu tm mo : Int) (M : List GMail) (P : List GGone) (g : GGone) (hm : 1 ≤ mo) : okGone nu tm mo M P g = (given nu tm g.uid g.modF && (decide (mo ≤ g.modF) && !taken M P g.uid)) := by
  rw [taken_eq]
  unfold okGone given within
  generalize hasUid g.uid M = x
  generalize P.any (fun x => x.uid == g.uid) = y
  generalize g.uid = u
  generalize g.modF = m
  by_cases h1 : 1 ≤ u <;> by_cases h2 : u < nu <;> by_cases h3 : mo ≤ m <;> by_cases h4 : m ≤ tm
  all_goals
    have e2 : decide (u ≤ nu - 1) = decide (u < nu) := by rw [Bool.eq_iff_iff]; simp; omega
    rw [e2]
    first
    | rw [show decide (1 ≤ m) = true from decide_eq_true (by omega)]
    | skip
    simp [h1, h2, h3, h4]
  all_goals (try (cases x <;> cases y <;> rfl))
end St
set_option maxRecDepth 20000 in
set_option maxHeartbeats 8000000 in
theorem implGones (b : GMailbox) (v4 v5 : Value) (lo : Nat) (w : World) (hI : GMailboxIn lo w.heap.size w b v4 v5) (hf : b.fits 1048576) (h0 : 1 ≤ b.nextUid) (h1 : b.nextUid ≤ 4294967295) (hml : b.mails.length ≤ 300) (hu : ∀ m ∈ b.mails, -9223372036854775808 ≤ m.uid ∧ m.uid ≤ 9223372036854775807) :
    Calls Tryd.prog 42 #[GMailboxV b v4 v5] w fun e w' => e = .returned (.bool (St.gonesOk b)) ∧ Below w.heap.size w w' := by
  obtain ⟨⟨a4, c4, rfl, t4⟩, ⟨a5, c5, rfl, t5⟩⟩ := hI
  obtain ⟨-, f4, f4', f5, -⟩ := hf
  unfold St.gonesOk
  obtain ⟨W, hW⟩ : ∃ W, W = w.alloc (.cells #[.string b.name, .int .i64 b.validity, .int .i64 b.nextUid, .int .i64 b.topMod, .slice a4 b.mails.length c4, .slice a5 b.gones.length c5] 38) := ⟨_, rfl⟩
  have hbA : Below w.heap.size w W := by rw [hW]; exact (Below.refl _ _).alloc (Nat.le_refl _) _
  have hWs : w.heap.size < W.heap.size := by rw [hW]; simp
  have q2 : W.cell? ⟨w.heap.size, 2, none⟩ = some (.int .i64 b.nextUid) := by rw [hW]; simp
  have q3 : W.cell? ⟨w.heap.size, 3, none⟩ = some (.int .i64 b.topMod) := by rw [hW]; simp
  have q5 : W.cell? ⟨w.heap.size, 5, none⟩ = some (.slice a5 b.gones.length c5) := by rw [hW]; simp
  have HM := mkHid ((t4.below hbA (Nat.le_refl _)).mono (Nat.le_refl _) hbA.size)
  have HD := mkHid ((t5.below hbA (Nat.le_refl _)).mono (Nat.le_refl _) hbA.size)
  have HW := mkHid hW
  have HbA := mkHid hbA
  have Hu := mkHid hu
  clear hW t4 t5 hbA f4' hu
  unfold GMailboxV
  generalize b.nextUid = nu at *
  generalize b.topMod = tm at *
  generalize b.mails = M at *
  generalize b.gones = D at *
  generalize b.name = nm at *
  generalize b.validity = va at *
  by_cases hl : D.length ≤ 300
  · have x1 : decide ((300 : Int) < (D.length : Int)) = false := decide_eq_false (by omega)
    rw [decide_eq_true hl, Bool.true_and]
    have cU := mkHid (implUids a4 M c4 lo W HM.out hml)
    obtain ⟨A, hA⟩ : ∃ A, St.okGones nu tm M 1 [] D = A := ⟨_, rfl⟩
    rw [hA]
    have HA : Hid (St.okGones nu tm M 1 (D.take 0) (D.drop 0) = A) := hA
    clear hA
    go_enter Tryd.func42, Tryd.ntmps42
    go_wp2_with (go_at_call 56; fail)
    rw [← HW.out]
    refine cU.out.mono ?_
    rintro e w1 ⟨y, rfl, hown, hb1⟩
    obtain ⟨o1, k1, rfl⟩ := hown.out.shape
    have cN := mkHid (implNewSet o1 (M.map (·.uid)) k1 _ w1 hown.out.inL (by
      intro z hz
      obtain ⟨m, hm, rfl⟩ := List.mem_map.1 hz
      exact Hu.out m hm) (by rw [List.length_map]; omega))
    have B1 := mkHid hb1
    clear cU HW hown hb1 Hu
    rw [List.length_map] at cN
    have hlm : (M.map (·.uid)).length = M.length := List.length_map _
    rw [hlm]
    go_wp2_with (go_at_call 61; fail)
    refine cN.out.mono ?_
    rintro e w2 ⟨rfl, hS, hb2⟩
    have B2 := mkHid (B1.out.trans (hb2.mono B1.out.size))
    have r5 := (B2.out.cell (p := ⟨w.heap.size, 5, none⟩) hWs).trans q5
    have HS : Hid (SetI w2 w1.heap.size (M.length + 0) (St.taken M (D.take 0))) := by
      obtain ⟨E, hE, hat⟩ := hS.out.own
      exact ⟨E, hE, fun z => by rw [hat z]; unfold St.taken; simp⟩
    have hs1 : W.heap.size ≤ w1.heap.size := B1.out.size
    clear cN hb2 hS B1 hlm
    generalize w1.heap.size = s at *
    go_wp2
    go_loopw [4, 18] (fun lv iv wr => ∃ (i : Nat) (mo : Int), i ≤ D.length ∧ iv = .int .i64 i ∧ lv = .int .i64 mo ∧ 1 ≤ mo ∧ Hid (St.okGones nu tm M mo (D.take i) (D.drop i) = A) ∧ Hid (SetI wr s (M.length + i) (St.taken M (D.take i))) ∧ Hid (Below W.heap.size W wr)) (fun _ iv _ => D.length - (Lib.intOf iv).toNat)
    case atStart => exact ⟨0, 1, Nat.zero_le _, rfl, rfl, by decide, HA, HS, B2⟩
    case round =>
      clear HA B2 r5 HS
      obtain ⟨i, mo, hi, rfl, rfl, hmo, hz, hS, hB⟩ := hrel
      by_cases hlt : i < D.length
      · obtain ⟨a, rfl, ha1, ha2, hAt⟩ := ((HD.out.below hB.out (Nat.le_refl _)).mono (Nat.le_refl _) hB.out.size) i hlt
        have d0 := hAt.c0
        have d1 := hAt.c1
        have hst := St.gones_step nu tm mo M D i hlt
        rw [hz.out, St.okGone_eq nu tm mo M (D.take i) _ hmo] at hst
        have hsl := hS.out.lt
        have htk : Hid (∀ z, St.taken M (D.take (i + 1)) z = (St.taken M (D.take i) z || [D[i].uid].any (· == z))) := by
          intro z
          unfold St.taken
          rw [List.take_succ_eq_append_getElem hlt, List.any_append]
          simp [Bool.or_assoc]
        clear hAt hz
        generalize D[i] = g at *
        obtain ⟨V, hV⟩ : ∃ V, V = wr.alloc (.cells #[.int .i64 g.uid, .int .i64 g.modF] 56) := ⟨_, rfl⟩
        have bV : Below wr.heap.size wr V := by rw [hV]; exact (Below.refl _ _).alloc (Nat.le_refl _) _
        have BV := mkHid (hB.out.trans (bV.mono hB.out.size))
        have hVs : V.heap.size = wr.heap.size + 1 := by rw [hV]; simp
        have e0 : V.cell? ⟨wr.heap.size, 0, none⟩ = some (.int .i64 g.uid) := by rw [hV]; simp
        have e1 : V.cell? ⟨wr.heap.size, 1, none⟩ = some (.int .i64 g.modF) := by rw [hV]; simp
        have hSV := mkHid (hS.out.below bV)
        have cG := mkHid (implGiven w.heap.size g.uid g.modF nu tm V ((BV.out.cell (p := ⟨w.heap.size, 2, none⟩) hWs).trans q2) ((BV.out.cell (p := ⟨w.heap.size, 3, none⟩) hWs).trans q3) h0 h1)
        have hbe := mkHid (HbA.out.trans (BV.out.mono (Nat.le_of_lt hWs)))
        have hrg : Hid (St.given nu tm g.uid g.modF = true → 1 ≤ g.uid ∧ g.uid ≤ 4294967295 ∧ 1 ≤ g.modF) := by
          intro h
          unfold St.given St.within at h
          simp at h
          omega
        have HV := mkHid hV
        clear hV bV hS
        generalize g.uid = u at *
        generalize g.modF = m at *
        replace hst := mkHid hst
        cases hbG : St.given nu tm u m
        · rw [hbG] at cG hst
          have hf : Hid (A = false) := by rw [hst.out]; rfl
          clear hst hbG hrg
          go_wp2_with (first | (go_at_call 57; go_must (rw [← HV.out]; refine cG.out.mono ?_; rintro e wx ⟨rfl, rfl⟩)) | fail)
          go_ret
          rw [hf.out]
          exact ⟨rfl, hbe.out⟩
        · rw [hbG] at cG hst
          obtain ⟨u1, u2, m1⟩ := hrg.out hbG
          clear hbG hrg
          by_cases hmm : mo ≤ m
          · have y1 : decide (m < mo) = false := decide_eq_false (by omega)
            have cH := mkHid (implHas s (M.length + i) (St.taken M (D.take i)) u V hSV.out (by omega) (by omega))
            rw [decide_eq_true hmm] at hst
            cases htu : St.taken M (D.take i) u
            · rw [htu] at cH hst
              have hf : Hid (St.okGones nu tm M m (D.take (i + 1)) (D.drop (i + 1)) = A) := by rw [hst.out]; rfl
              clear hst htu
              go_wp2_with (first | (go_at_call 57; go_must (rw [← HV.out]; refine cG.out.mono ?_; rintro e wx ⟨rfl, rfl⟩)) | (go_at_call 25; fail))
              refine cH.out.mono ?_
              rintro e w8 ⟨rfl, hb8⟩
              obtain ⟨X, hX⟩ : ∃ X, X = w8.alloc (.cells #[.int .i64 u] 2) := ⟨_, rfl⟩
              have bX : Below w8.heap.size w8 X := by rw [hX]; exact (Below.refl _ _).alloc (Nat.le_refl _) _
              have hXs : X.heap.size = w8.heap.size + 1 := by rw [hX]; simp
              have b8X := hb8.trans (bX.mono hb8.size)
              have hSX := hSV.out.below b8X
              have hXL : InL 0 X.heap.size X (some ⟨w8.heap.size, 0, none⟩) [u] := by
                intro j hj
                have : j = 0 := by simp at hj; omega
                subst this
                exact ⟨⟨w8.heap.size, 0, none⟩, rfl, Nat.zero_le _, by show w8.heap.size < _; omega, by rw [hX]; simp [Addr.add]⟩
              have cA := mkHid (implAdd s (M.length + i) (St.taken M (D.take i)) (some ⟨w8.heap.size, 0, none⟩) [u] 1 0 X hSX hXL (by intro z hz; simp at hz; subst hz; omega) (by simp) (by omega))
              have k0 := (hb8.cell (p := ⟨wr.heap.size, 0, none⟩) (by show wr.heap.size < _; omega)).trans e0
              have e1X := mkHid ((b8X.cell (p := ⟨wr.heap.size, 1, none⟩) (by show wr.heap.size < _; omega)).trans e1)
              have BX := mkHid (BV.out.trans (b8X.mono BV.out.size))
              have hXwr : wr.heap.size < X.heap.size := by have := b8X.size; omega
              have HX := mkHid hX
              clear cG cH hb8 hX bX b8X hSX hXL hSV HV e0 e1 d0 d1 BV hbe
              go_wp2_with (go_at_call 27; fail)
              rw [← HX.out]
              refine cA.out.mono ?_
              rintro e w9 ⟨rfl, hS9, hg9⟩
              have k1 := (World.cell?_of_block (hg9.out.block wr.heap.size hXwr (by intro h; have := Option.some.inj h; omega)) : w9.cell? ⟨wr.heap.size, 1, none⟩ = X.cell? ⟨wr.heap.size, 1, none⟩).trans e1X.out
              have B9 := mkHid (BX.out.grown hg9.out (by have := BX.out.size; omega) (fun k hk => by cases hk; exact hs1))
              have hS9' : Hid (SetI w9 s (M.length + (i + 1)) (St.taken M (D.take (i + 1)))) := by
                obtain ⟨E, hE, hat⟩ := hS9.out.own
                exact ⟨E, hE, fun z => by rw [hat z, htk.out z]⟩
              clear cA hS9 hg9 e1X BX HX htk k0
              go_wp2
              go_roundw
              case rel => exact ⟨i + 1, m, by omega, by go_num, rfl, m1, hf, hS9', B9⟩
              case measure => simp [Lib.intOf]; omega
            · rw [htu] at cH hst
              have hf : Hid (A = false) := by rw [hst.out]; rfl
              clear hst htu
              go_wp2_with (first | (go_at_call 57; go_must (rw [← HV.out]; refine cG.out.mono ?_; rintro e wx ⟨rfl, rfl⟩)) | (go_at_call 25; fail))
              refine cH.out.mono ?_
              rintro e w8 ⟨rfl, hb8⟩
              have hbe8 := mkHid (HbA.out.trans ((BV.out.trans (hb8.mono BV.out.size)).mono (Nat.le_of_lt hWs)))
              go_wp2
              go_ret
              rw [hf.out]
              exact ⟨rfl, hbe8.out⟩
          · have y1 : decide (m < mo) = true := decide_eq_true (by omega)
            rw [decide_eq_false hmm] at hst
            have hf : Hid (A = false) := by rw [hst.out]; rfl
            clear hst
            go_wp2_with (first | (go_at_call 57; go_must (rw [← HV.out]; refine cG.out.mono ?_; rintro e wx ⟨rfl, rfl⟩)) | fail)
            go_ret
            rw [hf.out]
            exact ⟨rfl, hbe.out⟩
      · have hz1 : Hid (A = true) := by
          have := hz.out
          rw [List.drop_eq_nil_of_le (by omega)] at this
          exact this.symm
        have hbe := mkHid (HbA.out.trans (hB.out.mono (Nat.le_of_lt hWs)))
        clear hz
        go_wp2
        go_ret
        rw [hz1.out]
        exact ⟨rfl, hbe.out⟩
  · have x1 : decide ((300 : Int) < (D.length : Int)) = true := decide_eq_true (by omega)
    rw [decide_eq_false hl, Bool.false_and]
    go_enter Tryd.func42, Tryd.ntmps42
    go_wp2
    go_ret
    rw [← HW.out]
    exact ⟨rfl, HbA.out⟩
end Go.Proofs.YtbepjjnjdhkcbaaDoor
