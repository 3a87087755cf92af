import Derived.Test.YtdlacoakimahkaaWildAny
import Derived.Test.YtdlacoakimahkaaDrawWild
import Derived.Test.YtdlacoakimahkaaWildsPlain
namespace Go.Proofs.Ytdlacoakimahkaa
open Go.RowKit Go.Lib
theorem OwnS.rowW {B : Nat} {v : Value} {ps : List (List UInt8)} {w : World} (h : OwnS B v ps w) : ∃ ao cap, v = .slice ao ps.length cap ∧ ∀ (j : Nat) (hj : j < ps.length), ∃ g, g < w.heap.size ∧ ao = some ⟨g, 0, none⟩ ∧ w.cell? ⟨g, j, none⟩ = some (txtL ps[j]) := by
  rcases h.form with ⟨hv, h0⟩ | ⟨g, cap, hv, hB, hg, -⟩
  · subst h0
    exact ⟨none, 0, hv, fun j hj => by simp at hj⟩
  · subst hv
    exact ⟨_, cap, rfl, fun j hj => ⟨g, hg, rfl, h.cell j hj⟩⟩
def RowW (ao : Option Addr) (ls : List (List UInt8)) (w : World) : Prop := ∀ (j : Nat) (hj : j < ls.length), ∃ g, g < w.heap.size ∧ ao = some ⟨g, 0, none⟩ ∧ w.cell? ⟨g, j, none⟩ = some (txtL ls[j])
theorem RowW.keep {ao : Option Addr} {ls : List (List UInt8)} {w w' : World} (h : RowW ao ls w) (hb : Below w.heap.size w w') : RowW ao ls w' := by
  intro j hj
  obtain ⟨g, h1, h2, h3⟩ := h j hj
  exact ⟨g, Nat.lt_of_lt_of_le h1 hb.size, h2, (hb.cell (p := ⟨g, j, none⟩) h1).trans h3⟩
set_option maxHeartbeats 400000 in
theorem lwTexts (a1 a2 : Option Addr) (c1 c2 : Nat) (ls : List (List UInt8)) (w : World) (hl : ls.length ≤ 1000000) (h1 : RowW a1 ls w) (h2 : RowW a2 ls w) :
    Calls Try.prog 6 #[.slice a1 ls.length c1, .slice a2 ls.length c2] w fun e w' => e = .returned (.bool true) ∧ Below w.heap.size w w' := by
  go_enter Try.func6, Try.ntmps6
  go_wp2
  go_loopw [5] (fun i wr => ∃ k : Nat, k ≤ ls.length ∧ i = .int .i64 k ∧ Below w.heap.size w wr) (fun i _ => ls.length - (Lib.intOf i).toNat)
  case atStart => exact ⟨0, Nat.zero_le _, rfl, Below.refl _ _⟩
  case round =>
    obtain ⟨k, hk, rfl, hb⟩ := hrel
    by_cases hlt : k < ls.length
    · obtain ⟨g1, hg1, e1, hc1⟩ := h1 k hlt
      obtain ⟨g2, hg2, e2, hc2⟩ := h2 k hlt
      have hr1 := (hb.cell (p := ⟨g1, k, none⟩) hg1).trans hc1
      have hr2 := (hb.cell (p := ⟨g2, k, none⟩) hg2).trans hc2
      unfold txtL at hr1 hr2
      generalize ls[k] = x at hr1 hr2
      clear h1 h2 hc1 hc2
      subst e1 e2
      go_wp2
      go_quiet (fail)
      go_wp2
      go_roundw
      case rel => exact ⟨k + 1, by omega, by go_num, below_drewN hb _⟩
      case measure => simp [Lib.intOf]; omega
    · go_wp2
      go_ret
      exact ⟨rfl, hb⟩
theorem catW (a b : List UInt8) : (⟨a.toArray⟩ : ByteArray) ++ ⟨b.toArray⟩ = ⟨(a ++ b).toArray⟩ := by
  apply ByteArray.ext
  simp
theorem ext1W (s : ByteArray) (k : Nat) (h : k < s.size) : s.extract k (k + 1) = ⟨[s[k]].toArray⟩ := by
  rw [extW]
  have hk : k < s.data.toList.length := by simpa using h
  rw [List.drop_eq_getElem_cons hk, show k + 1 - k = 1 by omega]
  rfl
theorem low_at (a t : List UInt8) (h : lower a = lower t) (i : Nat) (hi : i < t.length) : ∃ hi' : i < a.length, small a[i] = small t[i] := by
  have hl : a.length = t.length := by
    have := congrArg List.length h
    simpa [lower] using this
  refine ⟨by omega, ?_⟩
  have e1 : (lower a)[i]'(by simp [lower]; omega) = (lower t)[i]'(by simpa [lower] using hi) := by simp only [h]
  simpa [lower] using e1
set_option maxRecDepth 20000 in
set_option maxHeartbeats 4000000 in
theorem wildsWalk (o : Option Addr) (c : List UInt8) (cp : Nat) (w : World) (hc : Code w.heap.size w o c) (hl : c.length ≤ maxLen) :
    Calls Try.prog 3 #[.slice o c.length cp] w fun e w' => e = .returned (.bool true) ∧ Below w.heap.size w w' := by
  unfold maxLen at hl
  by_cases hbig : 1048576 < c.length
  · clear hc
    go_enter Try.func3, Try.ntmps3
    go_wp2
    go_ret
    exact ⟨rfl, Below.refl _ _⟩
  · have hD := drawWild o c cp w hc (by omega)
    clear hc
    go_enter Try.func3, Try.ntmps3
    go_wp2_with fail
    refine hD.mono ?_
    rintro e w1 ⟨p, t, rfl, hp, ht, hb1⟩
    clear hD
    have hI := implWildAny p t w1 (by omega) (by omega)
    go_wp2_with fail
    refine hI.mono ?_
    rintro e w2 ⟨v2, rfl, hown2, hb2⟩
    clear hI
    have hS := specWildAny p t w2 (by omega) (by omega)
    obtain ⟨a2, c2, rfl, hrow2⟩ := hown2.rowW
    have hrow2 : RowW a2 (wildOf p t) w2 := hrow2
    have hwc := wildOf_cases p t
    have hwl := wildOf_len p t
    generalize wildOf p t = ls at *
    clear hown2
    go_wp2_with fail
    refine hS.mono ?_
    rintro e w3 ⟨v3, rfl, hown3, hb3⟩
    obtain ⟨a3, c3, rfl, hrow3⟩ := hown3.rowW
    have hrow3 : RowW a3 ls w3 := hrow3
    clear hS hown3
    go_wp2_with fail
    refine (lwTexts a2 a3 c2 c3 ls _ (by omega) (hrow2.keep hb3) hrow3).mono ?_
    rintro e V ⟨rfl, hb4⟩
    have hs1 := hb1.size
    have hs2 := hb2.size
    have hs3 := hb3.size
    have hrV := mkH ((hrow2.keep hb3).keep hb4)
    have hbV : Hid (Below w.heap.size w V) := ((hb1.trans (hb2.mono hs1)).trans (hb3.mono (by omega))).trans (hb4.mono (by omega))
    clear hb1 hb2 hb3 hb4 hrow2 hrow3 hs1 hs2 hs3 hbig
    rcases hwc with rfl | ⟨hpz, htz2, hF, hls⟩
    · go_wp2
      go_ret
      exact ⟨rfl, hbV.out⟩
    · have hls0 : 0 < ls.length := by rw [hls]; unfold Wi.told; simp
      replace hF := mkH hF
      replace hls := mkH hls
      have h0 : ((ls.length : Int) == 0) = false := beq_eq_false_iff_ne.2 (by omega)
      obtain ⟨gm, hgm, hgm2, cM0⟩ := hrV.out 0 hls0
      have hz0 : ls[0] = t.data.toList := by
        have := Wi.told_zero (Wi.items p.data.toList) (lower t.data.toList) t.data.toList (Wi.items p.data.toList).length
        rw [← hls.out] at this
        exact (List.getElem?_eq_some_iff.1 this).2
      rw [hz0] at cM0
      replace cM0 : Hid (V.cell? ⟨gm, 0, none⟩ = some (.string t)) := cM0
      replace hgm2 := mkH hgm2
      clear hz0 hgm
      go_wp2
      go_loopw [6, 7, 8] (fun av kv iv wr => ∃ (i j k : Nat) (all : List UInt8), av = .string ⟨all.toArray⟩ ∧ kv = .int .i64 k ∧ iv = .int .i64 i ∧ 1 ≤ k ∧ k ≤ 10 ∧ Hid (Wi.At p.data.toList t.data.toList i j k all) ∧ wr = V) (fun _ _ iv _ => p.size - (Lib.intOf iv).toNat)
      case atStart => exact ⟨0, 0, 1, [], rfl, rfl, rfl, by omega, by omega, Wi.At.start _ _, rfl⟩
      case round =>
        obtain ⟨i, j, k, all, rfl, rfl, rfl, hk1, hk2, hAt, hWr⟩ := hrel
        have hWr' : wr = V := hWr
        clear hWr
        subst hWr'
        have hip := hAt.out.hi
        have hll : p.data.toList.length = p.size := by simp
        have htl : t.data.toList.length = t.size := by simp
        rw [hll] at hip
        have hal := hAt.out.len hF.out
        have hpo := (Wi.pos_F _ _ hF.out j hAt.out.hj).1
        rw [Wi.lower_len, htl, ← hal] at hpo
        clear hal
        have haz : (⟨all.toArray⟩ : ByteArray).size = all.length := by show all.toArray.size = _; simp
        by_cases hi : i < p.size
        · have h8 : p[i].toNat < 256 := UInt8.toNat_lt _
          have hgi : p.data.toList[i]'(by omega) = p[i] := rfl
          by_cases h42 : ((p[i].toNat : Int) == 42) = true
          · have hit := Wi.items_star p.data.toList i (by omega) (by_eq _ 42 h42)
            replace hit := mkH hit
            have h63 : ((p[i].toNat : Int) == 63) = false := by simp at h42 ⊢; omega
            clear hgi
            by_cases hk10 : k = 10
            · have hk10' : ((k : Int) == 10) = true := by rw [hk10]; rfl
              clear hk10 hAt
              go_wp2
              go_ret
              exact ⟨rfl, hbV.out⟩
            · have hk10' : ((k : Int) == 10) = false := beq_eq_false_iff_ne.2 (by omega)
              obtain ⟨m, hm1, hm2, hm3, hAt2⟩ := hAt.out.wild hF.out (by omega) (-1) (by decide) (hit.out) (by omega)
              rw [← hls.out] at hm1
              obtain ⟨hkl, hmk⟩ := List.getElem?_eq_some_iff.1 hm1
              obtain ⟨g, hg, rfl, cM⟩ := hrV.out k hkl
              rw [hmk] at cM
              have hml := hAt2.len hF.out
              replace hAt2 := mkH hAt2
              replace hm2 := hm2
              unfold txtL at cM
              have hkl' : (k : Int) < (ls.length : Int) := by omega
              have hcat := catW all m
              have hmz : (⟨m.toArray⟩ : ByteArray).size = m.length := by show m.toArray.size = _; simp
              have haz : (⟨all.toArray⟩ : ByteArray).size = all.length := by show all.toArray.size = _; simp
              clear hAt hm1 hmk hk10
              go_wp2
              go_roundw
              case rel => exact ⟨i + 1, j + 1, k + 1, all ++ m, by rw [← catW], by go_num, by go_num, by omega, by omega, hAt2.out, trivial⟩
              case measure => simp [Lib.intOf]; omega
          · rw [Bool.not_eq_true] at h42
            by_cases h63 : ((p[i].toNat : Int) == 63) = true
            · have hit := Wi.items_any p.data.toList i (by omega) (by_eq _ 63 h63)
              replace hit := mkH hit
              clear hgi
              by_cases hk10 : k = 10
              · have hk10' : ((k : Int) == 10) = true := by rw [hk10]; rfl
                clear hk10 hAt
                go_wp2
                go_ret
                exact ⟨rfl, hbV.out⟩
              · have hk10' : ((k : Int) == 10) = false := beq_eq_false_iff_ne.2 (by omega)
                obtain ⟨m, hm1, hm2, hm3, hAt2⟩ := hAt.out.wild hF.out (by omega) (-2) (by decide) (hit.out) (by omega)
                rw [← hls.out] at hm1
                obtain ⟨hkl, hmk⟩ := List.getElem?_eq_some_iff.1 hm1
                obtain ⟨g, hg, rfl, cM⟩ := hrV.out k hkl
                rw [hmk] at cM
                have hml := hAt2.len hF.out
                replace hAt2 := mkH hAt2
                replace hm2 := hm2
                unfold txtL at cM
                have hkl' : (k : Int) < (ls.length : Int) := by omega
                have hcat := catW all m
                have hmz : (⟨m.toArray⟩ : ByteArray).size = m.length := by show m.toArray.size = _; simp
                have haz : (⟨all.toArray⟩ : ByteArray).size = all.length := by show all.toArray.size = _; simp
                have hm1z : m.length = 1 := hm2 rfl
                have hm1y : ((((⟨m.toArray⟩ : ByteArray).size : Nat) : Int) == 1) = true := by rw [hmz, hm1z]; rfl
                have hm1w : ((((⟨m.toArray⟩ : ByteArray).size : Nat) : Int) != 1) = false := by rw [hmz, hm1z]; rfl
                clear hAt hm1 hmk hk10
                go_wp2
                go_roundw
                case rel => exact ⟨i + 1, j + 1, k + 1, all ++ m, by rw [← catW], by go_num, by go_num, by omega, by omega, hAt2.out, trivial⟩
                case measure => simp [Lib.intOf]; omega
            · rw [Bool.not_eq_true] at h63
              by_cases h92 : ((p[i].toNat : Int) == 92) = true
              · by_cases hi1 : i + 1 < p.size
                · have hi1' : decide ((i : Int) + 1 < (p.size : Int)) = true := by simp; omega
                  have hit := mkH (Wi.items_esc p.data.toList i (by omega) (by_eq _ 92 h92))
                  have hxs : (p.extract (i + 1) (i + 1 + 1)).size = 1 := by rw [ByteArray.size_extract]; omega
                  have hAt2 := hAt.out.byte hF.out (i + 2) (by omega) (p[i + 1]) (hit.out)
                  replace hAt2 := mkH hAt2
                  clear hAt
                  go_wp2
                  go_roundw
                  case rel => exact ⟨i + 2, j + 1, k, all ++ [p[i + 1]], by rw [← catW, ext1W _ _ (by omega)], by go_num, by go_num, by omega, by omega, hAt2.out, trivial⟩
                  case measure => simp [Lib.intOf]; omega
                · have hi1' : decide ((i : Int) + 1 < (p.size : Int)) = false := by simp; omega
                  have hit := mkH (Wi.items_last p.data.toList i (by omega) (by omega) (by_eq _ 92 h92))
                  have hxs : (p.extract i (i + 1)).size = 1 := by rw [ByteArray.size_extract]; omega
                  have hAt2 := hAt.out.byte hF.out (i + 1) (by omega) (p[i]) (hit.out)
                  replace hAt2 := mkH hAt2
                  clear hAt
                  go_wp2
                  go_roundw
                  case rel => exact ⟨i + 1, j + 1, k, all ++ [p[i]], by rw [← catW, ext1W _ _ (by omega)], by go_num, by go_num, by omega, by omega, hAt2.out, trivial⟩
                  case measure => simp [Lib.intOf]; omega
              · rw [Bool.not_eq_true] at h92
                have hit := mkH (Wi.items_byte p.data.toList i (by omega) (by_ne _ 42 h42) (by_ne _ 63 h63) (by_ne _ 92 h92))
                have hxs : (p.extract i (i + 1)).size = 1 := by rw [ByteArray.size_extract]; omega
                have hAt2 := hAt.out.byte hF.out (i + 1) (by omega) (p[i]) (hit.out)
                replace hAt2 := mkH hAt2
                clear hAt
                go_wp2
                go_roundw
                case rel => exact ⟨i + 1, j + 1, k, all ++ [p[i]], by rw [← catW, ext1W _ _ (by omega)], by go_num, by go_num, by omega, by omega, hAt2.out, trivial⟩
                case measure => simp [Lib.intOf]; omega
        · have hdone := mkH (hAt.out.done hF.out (by omega))
          have hlen : all.length = t.size := by
            have := congrArg List.length hdone.out
            rw [Wi.lower_len, Wi.lower_len, htl] at this
            exact this
          have hlow : Hid (∀ i (h : i < t.size), ∃ h' : i < (⟨all.toArray⟩ : ByteArray).size, small (⟨all.toArray⟩ : ByteArray)[i] = small t[i]) := by
            intro x hx
            obtain ⟨h1, h2⟩ := low_at all t.data.toList hdone.out x (by omega)
            exact ⟨by rw [haz]; exact h1, h2⟩
          have hsz : (⟨all.toArray⟩ : ByteArray).size = t.size := by rw [haz, hlen]
          generalize (⟨all.toArray⟩ : ByteArray) = s at *
          have hne : (((s.size : Nat) : Int) != ((t.size : Nat) : Int)) = false := by rw [hsz]; simp
          have c00 := cM0.out
          obtain rfl := hgm2.out
          clear hdone hAt haz hlen
          obtain ⟨V2, hV2⟩ : ∃ V2, V2 = wr := ⟨_, rfl⟩
          go_wp2
          subst hV2
          go_loopw [9] (fun iv w9 => ∃ x : Nat, x ≤ t.size ∧ iv = .int .i64 x ∧ w9 = V2) (fun iv _ => t.size - (Lib.intOf iv).toNat)
          case atStart => exact ⟨0, Nat.zero_le _, rfl, rfl⟩
          case round =>
            obtain ⟨x, hx, rfl, hW9⟩ := hrel
            have hW9' : wr = V2 := hW9
            clear hW9
            subst hW9'
            by_cases hxt : x < t.size
            · obtain ⟨hxs, hsm⟩ := hlow.out x hxt
              have h8a : s[x].toNat < 256 := UInt8.toNat_lt _
              have h8b : t[x].toNat < 256 := UInt8.toNat_lt _
              generalize hqa : s[x] = qa at *
              generalize hqb : t[x] = qb at *
              replace hqa := hqa
              replace hsm := mkH hsm
              rcases (show (qa.toNat < 65 ∨ (65 ≤ qa.toNat ∧ qa.toNat ≤ 90)) ∨ 90 < qa.toNat by omega) with (ra | ra) | ra
              · rcases (show (qb.toNat < 65 ∨ (65 ≤ qb.toNat ∧ qb.toNat ≤ 90)) ∨ 90 < qb.toNat by omega) with (rb | rb) | rb
                · have e3 : (((qa.toNat : Int)) == ((qb.toNat : Int))) = true := by
                    have h1 := hsm.out
                    rw [small_no qa (by omega)] at h1
                    rw [small_no qb (by omega)] at h1
                    have h4 := congrArg UInt8.toNat h1
                    simp only [beq_iff_eq]
                    omega
                  clear hsm
                  go_wp2
                  go_roundw
                  case rel => exact ⟨x + 1, by omega, by go_num, trivial⟩
                  case measure => simp [Lib.intOf]; omega
                · have e3 : (((qa.toNat : Int)) == ((qb.toNat : Int) + 32)) = true := by
                    have h1 := hsm.out
                    rw [small_no qa (by omega)] at h1
                    have h3 := small_yes qb (by omega)
                    have h4 := congrArg UInt8.toNat h1
                    simp only [beq_iff_eq]
                    omega
                  simp only [beq_iff_eq] at e3
                  exfalso
                  omega
                · have e3 : (((qa.toNat : Int)) == ((qb.toNat : Int))) = true := by
                    have h1 := hsm.out
                    rw [small_no qa (by omega)] at h1
                    rw [small_no qb (by omega)] at h1
                    have h4 := congrArg UInt8.toNat h1
                    simp only [beq_iff_eq]
                    omega
                  simp only [beq_iff_eq] at e3
                  exfalso
                  omega
              · rcases (show (qb.toNat < 65 ∨ (65 ≤ qb.toNat ∧ qb.toNat ≤ 90)) ∨ 90 < qb.toNat by omega) with (rb | rb) | rb
                · have e3 : (((qa.toNat : Int) + 32) == ((qb.toNat : Int))) = true := by
                    have h1 := hsm.out
                    have h2 := small_yes qa (by omega)
                    rw [small_no qb (by omega)] at h1
                    have h4 := congrArg UInt8.toNat h1
                    simp only [beq_iff_eq]
                    omega
                  simp only [beq_iff_eq] at e3
                  exfalso
                  omega
                · have e3 : (((qa.toNat : Int) + 32) == ((qb.toNat : Int) + 32)) = true := by
                    have h1 := hsm.out
                    have h2 := small_yes qa (by omega)
                    have h3 := small_yes qb (by omega)
                    have h4 := congrArg UInt8.toNat h1
                    simp only [beq_iff_eq]
                    omega
                  clear hsm
                  obtain ⟨ra1, ra2⟩ := ra
                  obtain ⟨rb1, rb2⟩ := rb
                  go_wp2
                  go_roundw
                  case rel => exact ⟨x + 1, by omega, by go_num, trivial⟩
                  case measure => simp [Lib.intOf]; omega
                · have e3 : (((qa.toNat : Int) + 32) == ((qb.toNat : Int))) = true := by
                    have h1 := hsm.out
                    have h2 := small_yes qa (by omega)
                    rw [small_no qb (by omega)] at h1
                    have h4 := congrArg UInt8.toNat h1
                    simp only [beq_iff_eq]
                    omega
                  clear hsm
                  obtain ⟨ra1, ra2⟩ := ra
                  go_wp2
                  go_roundw
                  case rel => exact ⟨x + 1, by omega, by go_num, trivial⟩
                  case measure => simp [Lib.intOf]; omega
              · rcases (show (qb.toNat < 65 ∨ (65 ≤ qb.toNat ∧ qb.toNat ≤ 90)) ∨ 90 < qb.toNat by omega) with (rb | rb) | rb
                · have e3 : (((qa.toNat : Int)) == ((qb.toNat : Int))) = true := by
                    have h1 := hsm.out
                    rw [small_no qa (by omega)] at h1
                    rw [small_no qb (by omega)] at h1
                    have h4 := congrArg UInt8.toNat h1
                    simp only [beq_iff_eq]
                    omega
                  simp only [beq_iff_eq] at e3
                  exfalso
                  omega
                · have e3 : (((qa.toNat : Int)) == ((qb.toNat : Int) + 32)) = true := by
                    have h1 := hsm.out
                    rw [small_no qa (by omega)] at h1
                    have h3 := small_yes qb (by omega)
                    have h4 := congrArg UInt8.toNat h1
                    simp only [beq_iff_eq]
                    omega
                  clear hsm
                  obtain ⟨rb1, rb2⟩ := rb
                  go_wp2
                  go_roundw
                  case rel => exact ⟨x + 1, by omega, by go_num, trivial⟩
                  case measure => simp [Lib.intOf]; omega
                · have e3 : (((qa.toNat : Int)) == ((qb.toNat : Int))) = true := by
                    have h1 := hsm.out
                    rw [small_no qa (by omega)] at h1
                    rw [small_no qb (by omega)] at h1
                    have h4 := congrArg UInt8.toNat h1
                    simp only [beq_iff_eq]
                    omega
                  clear hsm
                  go_wp2
                  go_roundw
                  case rel => exact ⟨x + 1, by omega, by go_num, trivial⟩
                  case measure => simp [Lib.intOf]; omega
            · clear c00
              go_wp2
              go_ret
              exact ⟨rfl, hbV.out⟩
end Go.Proofs.Ytdlacoakimahkaa
