
/- The law's comparison of entries. -/

/- A domain in capitals: plain. -/

/- Patterns with stars and points: plain. -/
import Derived.Test.YtadoifnfgoonaaaGreatDoorAdBoxK
import Derived.Test.YtadoifnfgoonaaaGreatDoorAdWords
import Derived.Test.YtadoifnfgoonaaaGreatDoorAdReadA
namespace Go.Proofs.YtadoifnfgoonaaaGreatDoor
open Go.RowKit Go.Lib
set_option maxRecDepth 20000 in
set_option maxHeartbeats 4000000 in
theorem lwEntriesSame (B : Nat) (ao bo : Option Addr) (ac bc : Nat) (E : List En) (w : World) (ha : EnsAt B ao E w) (hb : EnsAt B bo E w) (hB : B ≤ w.heap.size) (hl : E.length ≤ 1000) (hm : ∀ e ∈ E, e.mem.length ≤ 1000) :
    Calls Tryz.prog 8 #[.slice ao E.length ac, .slice bo E.length bc] w fun e w' => e = .returned (.bool true) ∧ Below w.heap.size w w' := by
  have HA := mkHid ha
  have HBb := mkHid hb
  have Hm := mkHid hm
  clear ha hb hm
  go_enter Tryz.func8, Tryz.ntmps8
  go_wp2
  go_loopw [5] (fun iv wr => ∃ i : Nat, iv = .int .i64 i ∧ i ≤ E.length ∧ Hid (Below w.heap.size w wr)) (fun iv _ => E.length - (Lib.intOf iv).toNat)
  case atStart => exact ⟨0, rfl, Nat.zero_le _, mkHid (Below.refl _ _)⟩
  case round =>
    obtain ⟨i, rfl, hi, Hb⟩ := hrel
    by_cases hlt : i < E.length
    · obtain ⟨gA, va, vca, hgA, rfl, ⟨a0, a1, a2, a3, a4, a5⟩, hMa, -⟩ := HA.out i hlt
      obtain ⟨gB, vb, vcb, hgB, rfl, ⟨b0, b1, b2, b3, b4, b5⟩, hMb, -⟩ := HBb.out i hlt
      have hme := Hm.out E[i] (List.getElem_mem hlt)
      generalize E[i] = q at a0 a1 a2 a3 a4 a5 b0 b1 b2 b3 b4 b5 hMa hMb hme
      obtain ⟨grp, nm, n, l, d, M⟩ := q
      have hme : M.length ≤ 1000 := hme
      have hC : ∀ V, Below w.heap.size w V → Calls Tryz.prog 10 #[.slice va M.length vca, .slice vb M.length vcb] V fun e w' => e = .returned (.bool true) ∧ Below V.heap.size V w' := fun V hV =>
        lwBoxesSame B va vb vca vcb M V (hMa.keep (hV.mono hB)) (hMb.keep (hV.mono hB)) (Nat.le_trans hB hV.size) hme
      have HC := mkHid hC
      have HK : Hid (∀ V, Below w.heap.size w V → ∀ g q, g < B → V.cell? ⟨g, q, none⟩ = w.cell? ⟨g, q, none⟩) := mkHid (fun V hV g q h => hV.cell (p := ⟨g, q, none⟩) (show g < _ by omega))
      have k := HK.out wr Hb.out
      have c0 := (k gA _ hgA).trans a0
      have c1 := (k gA _ hgA).trans a1
      have c2 := (k gA _ hgA).trans a2
      have c3 := (k gA _ hgA).trans a3
      have c4 := (k gA _ hgA).trans a4
      have c5 := (k gA _ hgA).trans a5
      have d0 := (k gB _ hgB).trans b0
      have d1 := (k gB _ hgB).trans b1
      have d2 := (k gB _ hgB).trans b2
      have d3 := (k gB _ hgB).trans b3
      have d4 := (k gB _ hgB).trans b4
      have d5 := (k gB _ hgB).trans b5
      have cE : Hid (∀ dd os, Calls Tryz.prog 10 #[.slice va M.length vca, .slice vb M.length vcb] (Go.Sort.grow (redrawn wr dd) os) fun e w'' => e = .returned (.bool true) ∧ ∃ p : Regrown, w'' = Go.Sort.grow (redrawn wr p.d) p.os) := fun dd os => Calls.regrown_of (HC.out _ (Hb.out.trans ((below_regrown wr dd os).mono Hb.out.size)))
      clear hC k hMa hMb a0 a1 a2 a3 a4 a5 b0 b1 b2 b3 b4 b5 HC HK
      have i1 : (i : Int) < (E.length : Int) := by omega
      have t1 : (nm.toList == nm.toList) = true := by simp
      have k0 := cell_regrown c0
      have l0 := cell_regrown d0
      have k1 := cell_regrown c1
      have l1 := cell_regrown d1
      have k2 := cell_regrown c2
      have l2 := cell_regrown d2
      have k3 := cell_regrown c3
      have l3 := cell_regrown d3
      have k4 := cell_regrown c4
      have l4 := cell_regrown d4
      have k5 := cell_regrown c5
      have l5 := cell_regrown d5
      clear c0 c1 c2 c3 c4 c5 d0 d1 d2 d3 d4 d5
      have hg1 : (grp != grp) = false := by simp
      cases grp
      all_goals
        go_wp2
        refine wp_region_quiet_below (by kernel_rfl) (by kernel_rfl) ?_
        iterate 48 (quiet_step (fail))
        quiet_step (exact cE.out _ _)
        repeat (quiet_step (fail))
        refine wpQuiet_nil ?_
        intro _ hw'
        obtain ⟨⟨dq, osq⟩, hw''⟩ := hw'
        subst hw''
        have hbq := mkHid (Hb.out.trans ((below_regrown wr dq osq).mono Hb.out.size))
        generalize Go.Sort.grow (redrawn wr dq) osq = wq at *
        clear k0 k1 k2 k3 k4 k5 l0 l1 l2 l3 l4 l5 cE Hb
        go_wp2
        go_roundw
        case rel => exact ⟨i + 1, by go_num, by omega, hbq⟩
        case measure => simp [Lib.intOf]; omega
    · go_wp2
      go_ret
      exact ⟨rfl, Hb.out⟩
end Go.Proofs.YtadoifnfgoonaaaGreatDoor
namespace Go.Proofs.YtadoifnfgoonaaaGreatDoor
open Go.RowKit Go.Lib
def big (c : UInt8) : UInt8 := if 97 ≤ c.toNat ∧ c.toNat ≤ 122 then UInt8.ofNat (c.toNat - 32) else c
def caps (l : List UInt8) : List UInt8 := l.map big
set_option maxRecDepth 20000 in
theorem big_yes (c : UInt8) (h : 97 ≤ c.toNat ∧ c.toNat ≤ 122) : ((big c).toNat : Int) = (c.toNat : Int) - 32 := by
  unfold big
  rw [if_pos h, UInt8.toNat_ofNat_of_lt' (by simp [UInt8.size]; omega)]
  omega
set_option maxRecDepth 20000 in
theorem big_no (c : UInt8) (h : ¬ (97 ≤ c.toNat ∧ c.toNat ≤ 122)) : big c = c := by
  unfold big
  rw [if_neg h]
set_option maxRecDepth 20000 in
theorem big_all : ∀ n : Fin 256, small (big (UInt8.ofNat n.val)) = small (UInt8.ofNat n.val) ∧ Pl.atom (big (UInt8.ofNat n.val)) = Pl.atom (UInt8.ofNat n.val) ∧ Pl.litB (big (UInt8.ofNat n.val)) = Pl.litB (UInt8.ofNat n.val) ∧ (big (UInt8.ofNat n.val) == 46) = (UInt8.ofNat n.val == 46) ∧ (big (UInt8.ofNat n.val) == 91) = (UInt8.ofNat n.val == 91) ∧ (big (UInt8.ofNat n.val) == 93) = (UInt8.ofNat n.val == 93) := by decide +kernel
set_option maxRecDepth 20000 in
theorem big_of (c : UInt8) : small (big c) = small c ∧ Pl.atom (big c) = Pl.atom c ∧ Pl.litB (big c) = Pl.litB c ∧ (big c == 46) = (c == 46) ∧ (big c == 91) = (c == 91) ∧ (big c == 93) = (c == 93) := by
  have := big_all ⟨c.toNat, UInt8.toNat_lt c⟩
  simpa only [UInt8.ofNat_toNat] using this
set_option maxRecDepth 20000 in
theorem lower_caps (l : List UInt8) : lower (caps l) = lower l := by
  simp only [lower, caps, List.map_map]
  exact List.map_congr_left fun c _ => (big_of c).1
set_option maxRecDepth 20000 in
theorem scan_caps : ∀ (l : List UInt8) (b : Bool), Pl.scan 46 b (caps l) = Pl.scan 46 b l
  | [], _ => rfl
  | c :: r, b => by
    show Pl.scan 46 b (big c :: caps r) = _
    rw [Pl.scan, Pl.scan, (big_of c).2.1, (big_of c).2.2.2.1, scan_caps r, scan_caps r]
set_option maxRecDepth 20000 in
theorem lit_caps (l : List UInt8) : Pl.isLit (caps l) = Pl.isLit l := by
  match l with
  | [] => rfl
  | c :: r =>
    have h91 := (big_of c).2.2.2.2.1
    by_cases hc : c = 91
    · subst hc
      have e : caps (91 :: r) = 91 :: caps r := rfl
      have hlen : (caps (91 :: r)).length = (91 :: r).length := by simp [caps]
      by_cases h2 : (91 :: r).length < 2
      · rw [Pl.lit_short _ _ e (by omega), Pl.lit_short _ _ rfl h2]
      · have hg : (caps (91 :: r))[(caps (91 :: r)).length - 1]'(by rw [hlen]; simp) = big ((91 :: r)[(91 :: r).length - 1]) := by simp only [caps, List.getElem_map, List.length_map]
        by_cases hl : (91 :: r)[(91 :: r).length - 1] = 93
        · rw [Pl.lit_mid _ _ e (by omega) (by rw [hg, hl]; decide), Pl.lit_mid _ _ rfl (by omega) hl]
          have hm : Pl.mid (caps (91 :: r)) = caps (Pl.mid (91 :: r)) := by
            unfold Pl.mid
            rw [hlen]
            simp only [caps, List.map_take, List.map_drop]
          rw [hm]
          simp only [caps, List.all_map]
          congr 1
          funext c
          exact (big_of c).2.2.1
        · rw [Pl.lit_open _ _ e (by omega) (by
            rw [hg]
            intro h
            have h93 := (big_of ((91 :: r)[(91 :: r).length - 1])).2.2.2.2.2
            rw [h] at h93
            exact hl (by simpa using h93.symm)), Pl.lit_open _ _ rfl (by omega) hl]
    · have hb : ¬ big c = 91 := fun h => by
        rw [h] at h91
        exact hc (by simpa using h91.symm)
      have p1 : hasPrefix (c :: r) [91] = false := by rw [hasPrefix]; simp [List.isPrefixOf, Ne.symm hc]
      have p2 : hasPrefix (caps (c :: r)) [91] = false := by
        show hasPrefix (big c :: caps r) [91] = false
        rw [hasPrefix]; simp [List.isPrefixOf, Ne.symm hb]
      rw [Pl.isLit, Pl.isLit, p1, p2]
      simp
set_option maxRecDepth 20000 in
theorem dom_caps (l : List UInt8) : Pl.domI (caps l) = Pl.domI l := by
  rw [Pl.domI, Pl.domI, scan_caps, lit_caps]
  simp [caps]
set_option maxRecDepth 20000 in
theorem addr_caps (n l d : ByteArray) : addrOk n l ⟨(caps d.data.toList).toArray⟩ = addrOk n l d := by
  unfold addrOk
  rw [show (⟨(caps d.data.toList).toArray⟩ : ByteArray).data.toList = caps d.data.toList by simp, dom_caps]
set_option maxRecDepth 20000 in
theorem key_caps (n l d : ByteArray) : keyT n l ⟨(caps d.data.toList).toArray⟩ = keyT n l d := by
  unfold keyT
  rw [addr_caps, show (⟨(caps d.data.toList).toArray⟩ : ByteArray).data.toList = caps d.data.toList by simp, lower_caps]
/-- The bytes that are made great so far. -/
def capTo (l : List UInt8) (k : Nat) : List UInt8 := caps (l.take k) ++ l.drop k
set_option maxRecDepth 20000 in
theorem capTo_len (l : List UInt8) (k : Nat) : (capTo l k).length = l.length := by
  simp only [capTo, caps, List.length_append, List.length_map, List.length_take, List.length_drop]; omega
set_option maxRecDepth 20000 in
theorem capTo_zero (l : List UInt8) : capTo l 0 = l := by simp [capTo, caps]
set_option maxRecDepth 20000 in
theorem capTo_all (l : List UInt8) (k : Nat) (h : l.length ≤ k) : capTo l k = caps l := by
  rw [capTo, List.take_of_length_le h, List.drop_eq_nil_of_le h, List.append_nil]
set_option maxRecDepth 20000 in
theorem capTo_get (l : List UInt8) (k : Nat) (h : k < l.length) : (capTo l k)[k]'(by rw [capTo_len]; exact h) = l[k] := by
  simp only [capTo, caps]
  rw [List.getElem_append_right (by simp; omega)]
  simp [List.length_take, Nat.min_eq_left (Nat.le_of_lt h)]
set_option maxRecDepth 20000 in
theorem capTo_set (l : List UInt8) (k : Nat) (h : k < l.length) : (capTo l k).set k (big l[k]) = capTo l (k + 1) := by
  have e1 : l.take (k + 1) = l.take k ++ [l[k]] := by rw [List.take_succ_eq_append_getElem h]
  have hl : (caps (l.take k)).length = k := by simp [caps]; omega
  rw [capTo, List.set_append, if_neg (by omega), hl, Nat.sub_self, List.drop_eq_getElem_cons h, List.set_cons_zero, capTo, e1, caps, caps, List.map_append, List.append_assoc]
  rfl
set_option maxRecDepth 20000 in
theorem capTo_same (l : List UInt8) (k : Nat) (h : k < l.length) (hs : big l[k] = l[k]) : capTo l k = capTo l (k + 1) := by
  rw [← capTo_set l k h, hs, ← capTo_get l k h, List.set_getElem_self]
end Go.Proofs.YtadoifnfgoonaaaGreatDoor
namespace Go.Proofs.YtadoifnfgoonaaaGreatDoor
namespace Wi
/-- A pattern taken apart: -1 any bytes, -2 one byte, else a byte. -/
def items : List UInt8 → List Int
  | [] => []
  | c :: r => if c = 42 then -1 :: items r else if c = 63 then -2 :: items r else if c = 92 then (match r with | [] => [92] | d :: r' => ((small d).toNat : Int) :: items r') else ((small c).toNat : Int) :: items r
set_option maxRecDepth 20000 in
theorem items_cons (c : UInt8) (r : List UInt8) : items (c :: r) = if c = 42 then -1 :: items r else if c = 63 then -2 :: items r else if c = 92 then (match r with | [] => [92] | d :: r' => ((small d).toNat : Int) :: items r') else ((small c).toNat : Int) :: items r := by
  rw [items.eq_def]
set_option maxRecDepth 20000 in
theorem items_len (p : List UInt8) : (items p).length ≤ p.length := by
  match p with
  | [] => simp [items]
  | c :: r =>
    have := items_len r
    unfold items
    split
    · simpa using this
    · split
      · simpa using this
      · split
        · match r with
          | [] => simp
          | d :: r' => have := items_len r'; simp; omega
        · simpa using this
set_option maxRecDepth 20000 in
theorem small_pos (c : UInt8) : (0 : Int) ≤ ((small c).toNat : Int) := by omega
set_option maxRecDepth 20000 in
theorem items_star (p : List UInt8) (k : Nat) (h : k < p.length) (hc : p[k] = 42) : items (p.drop k) = -1 :: items (p.drop (k + 1)) := by
  rw [List.drop_eq_getElem_cons h, hc, items_cons, if_pos rfl]
set_option maxRecDepth 20000 in
theorem items_any (p : List UInt8) (k : Nat) (h : k < p.length) (hc : p[k] = 63) : items (p.drop k) = -2 :: items (p.drop (k + 1)) := by
  rw [List.drop_eq_getElem_cons h, hc, items_cons, if_neg (by decide), if_pos rfl]
set_option maxRecDepth 20000 in
theorem items_esc (p : List UInt8) (k : Nat) (h : k + 1 < p.length) (hc : p[k] = 92) : items (p.drop k) = ((small p[k + 1]).toNat : Int) :: items (p.drop (k + 2)) := by
  rw [List.drop_eq_getElem_cons (by omega), hc, List.drop_eq_getElem_cons h]; rfl
set_option maxRecDepth 20000 in
theorem items_last (p : List UInt8) (k : Nat) (h : k < p.length) (h1 : p.length ≤ k + 1) (hc : p[k] = 92) : items (p.drop k) = ((small p[k]).toNat : Int) :: items (p.drop (k + 1)) := by
  rw [List.drop_eq_getElem_cons h, hc, List.drop_eq_nil_of_le h1]; rfl
set_option maxRecDepth 20000 in
theorem items_byte (p : List UInt8) (k : Nat) (h : k < p.length) (h1 : p[k] ≠ 42) (h2 : p[k] ≠ 63) (h3 : p[k] ≠ 92) : items (p.drop k) = ((small p[k]).toNat : Int) :: items (p.drop (k + 1)) := by
  rw [List.drop_eq_getElem_cons h, items_cons, if_neg h1, if_neg h2, if_neg h3]
set_option maxRecDepth 20000 in
theorem small_small (c : UInt8) : small (small c) = small c := by
  have h8 := UInt8.toNat_lt c
  by_cases h : 65 ≤ c.toNat ∧ c.toNat ≤ 90
  · have := small_yes c h
    exact small_no _ (by omega)
  · rw [small_no c h, small_no c h]
set_option maxRecDepth 20000 in
theorem small_eq (c d : UInt8) (hd : ¬ (65 ≤ d.toNat ∧ d.toNat ≤ 90)) (hd2 : ¬ (97 ≤ d.toNat ∧ d.toNat ≤ 122)) : small c = d ↔ c = d := by
  by_cases h : 65 ≤ c.toNat ∧ c.toNat ≤ 90
  · have := small_yes c h
    constructor
    · intro e; rw [e] at this; omega
    · intro e; subst e; exact absurd h hd
  · rw [small_no c h]
set_option maxRecDepth 20000 in
theorem items_lower (p : List UInt8) : items (lower p) = items p := by
  match p with
  | [] => rfl
  | c :: r =>
    have ih := items_lower r
    have e : lower (c :: r) = small c :: lower r := rfl
    rw [e]
    unfold items
    have e1 := small_eq c 42 (by decide) (by decide)
    have e2 := small_eq c 63 (by decide) (by decide)
    have e3 := small_eq c 92 (by decide) (by decide)
    simp only [e1, e2, e3]
    split
    · rw [ih]
    · split
      · rw [ih]
      · split
        · match r with
          | [] => rfl
          | d :: r' =>
            have ih' := items_lower r'
            show ((small (small d)).toNat : Int) :: items (lower r') = _
            rw [small_small, ih']
        · rw [small_small, ih]
set_option maxRecDepth 20000 in
theorem items_ge (p : List UInt8) : ∀ x ∈ items p, -2 ≤ x ∧ x < 256 := by
  match p with
  | [] => intro x h; simp [items] at h
  | c :: r =>
    have ih := items_ge r
    intro x h
    have hb : ∀ d : UInt8, -2 ≤ ((small d).toNat : Int) ∧ ((small d).toNat : Int) < 256 := fun d => by have := UInt8.toNat_lt (small d); omega
    unfold items at h
    split at h
    · rcases List.mem_cons.1 h with rfl | h
      · omega
      · exact ih x h
    · split at h
      · rcases List.mem_cons.1 h with rfl | h
        · omega
        · exact ih x h
      · split at h
        · match r, h with
          | [], h => simp at h; omega
          | d :: r', h =>
            rcases List.mem_cons.1 h with rfl | h
            · exact hb d
            · exact items_ge r' x h
        · rcases List.mem_cons.1 h with rfl | h
          · exact hb c
          · exact ih x h

def anyFrom (f : List UInt8 → Bool) : List UInt8 → Bool
  | [] => f []
  | c :: t => f (c :: t) || anyFrom f t
def ok (x : Int) (c : UInt8) : Bool := x == -2 || x == (c.toNat : Int)
/-- Whether items fit a text (of small letters). -/
def fits : List Int → List UInt8 → Bool
  | [] => fun t => t.isEmpty
  | x :: p => fun t => if x = -1 then anyFrom (fits p) t else match t with | [] => false | c :: t' => ok x c && fits p t'
set_option maxRecDepth 20000 in
theorem fits_star (x : Int) (p : List Int) (t : List UInt8) (h : x = -1) : fits (x :: p) t = anyFrom (fits p) t := by
  subst h; rfl
set_option maxRecDepth 20000 in
theorem fits_one (x : Int) (p : List Int) (c : UInt8) (t : List UInt8) (h : x ≠ -1) : fits (x :: p) (c :: t) = (ok x c && fits p t) := by
  show (if x = -1 then _ else _) = _
  rw [if_neg h]
set_option maxRecDepth 20000 in
theorem fits_none (x : Int) (p : List Int) (h : x ≠ -1) : fits (x :: p) [] = false := by
  show (if x = -1 then _ else _) = _
  rw [if_neg h]
def F (P : List Int) (L : List UInt8) (i j : Nat) : Bool := fits (P.drop i) (L.drop j)
set_option maxRecDepth 20000 in
theorem F_end (P : List Int) (L : List UInt8) (i j : Nat) (h : P.length ≤ i) : F P L i j = decide (L.length ≤ j) := by
  rw [F, List.drop_eq_nil_of_le h, fits]
  by_cases hj : L.length ≤ j
  · rw [List.drop_eq_nil_of_le hj]; simp [hj]
  · rw [List.drop_eq_getElem_cons (by omega)]; simp [hj]
set_option maxRecDepth 20000 in
theorem F_star (P : List Int) (L : List UInt8) (i j : Nat) (h : i < P.length) (hs : P[i] = -1) (hj : j < L.length) : F P L i j = (F P L (i + 1) j || F P L i (j + 1)) := by
  rw [F, List.drop_eq_getElem_cons h, fits_star _ _ _ hs, F, F, List.drop_eq_getElem_cons h, fits_star _ _ _ hs, List.drop_eq_getElem_cons hj, anyFrom]
set_option maxRecDepth 20000 in
theorem F_star_end (P : List Int) (L : List UInt8) (i j : Nat) (h : i < P.length) (hs : P[i] = -1) (hj : L.length ≤ j) : F P L i j = F P L (i + 1) j := by
  rw [F, List.drop_eq_getElem_cons h, fits_star _ _ _ hs, F, List.drop_eq_nil_of_le hj, anyFrom]
set_option maxRecDepth 20000 in
theorem F_one (P : List Int) (L : List UInt8) (i j : Nat) (h : i < P.length) (hs : P[i] ≠ -1) (hj : j < L.length) : F P L i j = (ok P[i] L[j] && F P L (i + 1) (j + 1)) := by
  rw [F, List.drop_eq_getElem_cons h, List.drop_eq_getElem_cons hj, fits_one _ _ _ _ hs, F]
set_option maxRecDepth 20000 in
theorem F_one_end (P : List Int) (L : List UInt8) (i j : Nat) (h : i < P.length) (hs : P[i] ≠ -1) (hj : L.length ≤ j) : F P L i j = false := by
  rw [F, List.drop_eq_getElem_cons h, List.drop_eq_nil_of_le hj, fits_none _ _ hs]
set_option maxRecDepth 20000 in
theorem F_one_fwd (P : List Int) (L : List UInt8) (i j : Nat) (h : i < P.length) (hs : P[i] ≠ -1) (hF : F P L i j = true) : ∃ hj : j < L.length, ok P[i] L[j] = true ∧ F P L (i + 1) (j + 1) = true := by
  by_cases hj : j < L.length
  · rw [F_one P L i j h hs hj, Bool.and_eq_true] at hF
    exact ⟨hj, hF⟩
  · rw [F_one_end P L i j h hs (by omega)] at hF; cases hF
set_option maxRecDepth 20000 in
theorem F_star_fwd (P : List Int) (L : List UInt8) (i j : Nat) (h : i < P.length) (hs : P[i] = -1) (hj : j ≤ L.length) (hF : F P L i j = true) : ∃ k, j ≤ k ∧ k ≤ L.length ∧ F P L (i + 1) k = true := by
  by_cases hj' : j < L.length
  · rw [F_star P L i j h hs hj', Bool.or_eq_true] at hF
    rcases hF with hF | hF
    · exact ⟨j, Nat.le_refl _, hj, hF⟩
    · obtain ⟨k, h1, h2, h3⟩ := F_star_fwd P L i (j + 1) h hs (by omega) hF
      exact ⟨k, by omega, h2, h3⟩
  · rw [F_star_end P L i j h hs (by omega)] at hF
    exact ⟨j, Nat.le_refl _, hj, hF⟩
  termination_by L.length - j
set_option maxRecDepth 20000 in
theorem F_star_left (P : List Int) (L : List UInt8) (i j k : Nat) (h : i < P.length) (hs : P[i] = -1) (hjk : j ≤ k) (hk : k ≤ L.length) (hF : F P L i k = true) : F P L i j = true := by
  by_cases e : j = k
  · subst e; exact hF
  · rw [F_star P L i j h hs (by omega), F_star_left P L i (j + 1) k h hs (by omega) hk hF, Bool.or_true]
  termination_by k - j
set_option maxRecDepth 20000 in
theorem F_star_back (P : List Int) (L : List UInt8) (i j k : Nat) (h : i < P.length) (hs : P[i] = -1) (hjk : j ≤ k) (hk : k ≤ L.length) (hF : F P L (i + 1) k = true) : F P L i j = true := by
  refine F_star_left P L i j k h hs hjk hk ?_
  by_cases e : k < L.length
  · rw [F_star P L i k h hs e, hF, Bool.true_or]
  · rw [F_star_end P L i k h hs (by omega), hF]

def srch (f : Nat → Bool) : Nat → Nat → Nat
  | 0, k => k
  | n + 1, k => if f k then k else srch f n (k + 1)
set_option maxRecDepth 20000 in
theorem srch_eq (f : Nat → Bool) (n k0 k : Nat) (h0 : k0 ≤ k) (hf : f k = true) (hno : ∀ j, k0 ≤ j → j < k → f j = false) (hn : k - k0 < n) : srch f n k0 = k := by
  induction n generalizing k0 with
  | zero => omega
  | succ n ih =>
    unfold srch
    by_cases e : k0 = k
    · subst e; rw [if_pos hf]
    · rw [hno k0 (Nat.le_refl _) (by omega)]
      exact ih (k0 + 1) (by omega) (fun j h1 h2 => hno j (by omega) h2) (by omega)
set_option maxRecDepth 20000 in
/-- The first place from k0 on. -/
theorem first_of (f : Nat → Bool) (n k0 k : Nat) (h0 : k0 ≤ k) (hf : f k = true) (hn : k - k0 < n) : k0 ≤ srch f n k0 ∧ srch f n k0 ≤ k ∧ f (srch f n k0) = true := by
  induction n generalizing k0 with
  | zero => omega
  | succ n ih =>
    unfold srch
    by_cases e : f k0 = true
    · rw [if_pos e]; exact ⟨Nat.le_refl _, h0, e⟩
    · rw [if_neg e]
      have hne : k0 ≠ k := fun h => e (h ▸ hf)
      obtain ⟨h1, h2, h3⟩ := ih (k0 + 1) (by omega) (by omega)
      exact ⟨by omega, h2, h3⟩
def pos (P : List Int) (L : List UInt8) : Nat → Nat
  | 0 => 0
  | i + 1 => if P[i]? = some (-1) then srch (F P L (i + 1)) (L.length + 1) (pos P L i) else pos P L i + 1
set_option maxRecDepth 20000 in
theorem pos_star (P : List Int) (L : List UInt8) (i : Nat) (h : i < P.length) (hs : P[i] = -1) : pos P L (i + 1) = srch (F P L (i + 1)) (L.length + 1) (pos P L i) := by
  rw [pos, if_pos (by rw [List.getElem?_eq_getElem h, hs])]
set_option maxRecDepth 20000 in
theorem pos_one (P : List Int) (L : List UInt8) (i : Nat) (h : i < P.length) (hs : P[i] ≠ -1) : pos P L (i + 1) = pos P L i + 1 := by
  rw [pos, if_neg (by rw [List.getElem?_eq_getElem h]; simpa using hs)]
set_option maxRecDepth 20000 in
/-- The places of a pattern that fits. -/
theorem pos_F (P : List Int) (L : List UInt8) (hF : F P L 0 0 = true) (i : Nat) (h : i ≤ P.length) : pos P L i ≤ L.length ∧ F P L i (pos P L i) = true := by
  induction i with
  | zero => exact ⟨Nat.zero_le _, hF⟩
  | succ i ih =>
    obtain ⟨h1, h2⟩ := ih (by omega)
    by_cases hs : P[i] = -1
    · obtain ⟨k, hk1, hk2, hk3⟩ := F_star_fwd P L i _ (by omega) hs h1 h2
      obtain ⟨e1, e2, e3⟩ := first_of (F P L (i + 1)) (L.length + 1) (pos P L i) k hk1 hk3 (by omega)
      rw [pos_star P L i (by omega) hs]
      exact ⟨by omega, e3⟩
    · obtain ⟨hj, -, h3⟩ := F_one_fwd P L i _ (by omega) hs h2
      rw [pos_one P L i (by omega) hs]
      exact ⟨by omega, h3⟩
set_option maxRecDepth 20000 in
theorem pos_mono (P : List Int) (L : List UInt8) (hF : F P L 0 0 = true) (i : Nat) (h : i < P.length) : pos P L i ≤ pos P L (i + 1) := by
  obtain ⟨h1, h2⟩ := pos_F P L hF i (by omega)
  by_cases hs : P[i] = -1
  · obtain ⟨k, hk1, hk2, hk3⟩ := F_star_fwd P L i _ (by omega) hs h1 h2
    obtain ⟨e1, e2, e3⟩ := first_of (F P L (i + 1)) (L.length + 1) (pos P L i) k hk1 hk3 (by omega)
    rw [pos_star P L i (by omega) hs]
    exact e1
  · rw [pos_one P L i (by omega) hs]; omega

/-- What is known where the greedy search stands: x pieces are laid up to the place a; q stands behind the last star. -/
structure Inv (P : List Int) (L : List UInt8) (B : Nat → Nat) (x a q : Nat) : Prop where
  hq : q ≤ x
  hx : x ≤ P.length
  ha : a ≤ L.length
  hB : B x = a
  seg : ∀ i, q ≤ i → i ≤ x → B i = B q + (i - q)
  one : ∀ i (h : i < P.length), q ≤ i → i < x → P[i] ≠ -1 ∧ ∃ hj : B i < L.length, ok P[i] L[B i] = true
  zero : q = 0 → B 0 = 0
  star : ∀ h : q - 1 < P.length, 0 < q → P[q - 1] = -1
  back : 0 < q → B (q - 1) ≤ B q ∧ ∀ b, B (q - 1) ≤ b → b ≤ L.length → F P L q b = true → F P L 0 0 = true
  same : F P L 0 0 = true → (∀ i, i < q → B i = pos P L i) ∧ B q ≤ pos P L q
set_option maxRecDepth 20000 in
theorem Inv.start (P : List Int) (L : List UInt8) (B : Nat → Nat) (h : B 0 = 0) : Inv P L B 0 0 0 := by
  refine ⟨Nat.le_refl _, Nat.zero_le _, Nat.zero_le _, h, ?_, fun i h h1 h2 => by omega, fun _ => h, fun _ h => by omega, fun h => by omega, fun _ => ⟨fun i h => by omega, by rw [h]; exact Nat.zero_le _⟩⟩
  intro i h1 h2
  obtain rfl : i = 0 := by omega
  rfl
set_option maxRecDepth 20000 in
theorem Inv.bq {P : List Int} {L : List UInt8} {B : Nat → Nat} {x a q : Nat} (v : Inv P L B x a q) : B q + (x - q) = a := by rw [← v.seg x v.hq (Nat.le_refl _), v.hB]
set_option maxRecDepth 20000 in
/-- From the segment's first piece to where the search stands, and back. -/
theorem Inv.fwd {P : List Int} {L : List UInt8} {B : Nat → Nat} {x a q : Nat} (v : Inv P L B x a q) (b i : Nat) (hF : F P L q b = true) (h1 : q ≤ i) (h2 : i ≤ x) : F P L i (b + (i - q)) = true ∧ (0 < i → pos P L q = b → pos P L i = b + (i - q)) := by
  induction i with
  | zero => obtain rfl : q = 0 := by omega
            exact ⟨by simpa using hF, fun h => by omega⟩
  | succ i ih =>
    by_cases e : q = i + 1
    · subst e; exact ⟨by simpa using hF, fun _ h => by simpa using h⟩
    · obtain ⟨h3, h4⟩ := ih (by omega) (by omega)
      have hP : i < P.length := by have := v.hx; omega
      have hs := (v.one i hP (by omega) (by omega)).1
      obtain ⟨hj, -, h5⟩ := F_one_fwd P L i _ hP hs h3
      refine ⟨by rw [show b + (i + 1 - q) = b + (i - q) + 1 by omega]; exact h5, fun _ hp => ?_⟩
      rw [pos_one P L i hP hs]
      by_cases e0 : i = 0
      · subst e0
        obtain rfl : q = 0 := by omega
        rw [← hp]
      · rw [h4 (by omega) hp]; omega
set_option maxRecDepth 20000 in
theorem Inv.bwd {P : List Int} {L : List UInt8} {B : Nat → Nat} {x a q : Nat} (v : Inv P L B x a q) (hF : F P L x a = true) : F P L q (B q) = true := by
  have key : ∀ d, d ≤ x - q → F P L (x - d) (B (x - d)) = true := by
    intro d
    induction d with
    | zero => intro _; rw [Nat.sub_zero, v.hB]; exact hF
    | succ d ih =>
      intro hd
      have h1 := ih (by omega)
      have hP : x - (d + 1) < P.length := by have := v.hx; omega
      obtain ⟨hs, hj, hok⟩ := v.one (x - (d + 1)) hP (by omega) (by omega)
      rw [F_one P L _ _ hP hs hj, hok, Bool.true_and]
      have e1 := v.seg (x - (d + 1)) (by omega) (by omega)
      have e2 := v.seg (x - d) (by omega) (by omega)
      rw [show B (x - (d + 1)) + 1 = B (x - d) by omega, show x - (d + 1) + 1 = x - d by omega]
      exact h1
  have := key (x - q) (Nat.le_refl _)
  rwa [show x - (x - q) = q by have := v.hq; omega] at this
set_option maxRecDepth 20000 in
theorem Inv.all {P : List Int} {L : List UInt8} {B : Nat → Nat} {x a q : Nat} (v : Inv P L B x a q) (hF : F P L x a = true) : F P L 0 0 = true := by
  have h := v.bwd hF
  by_cases e : q = 0
  · subst e; rw [v.zero rfl] at h; exact h
  · obtain ⟨h1, h2⟩ := v.back (by omega)
    exact h2 _ h1 (by have := v.bq; have := v.ha; omega) h
set_option maxRecDepth 20000 in
/-- Where the segment fits at its place, this is the place. -/
theorem Inv.posq {P : List Int} {L : List UInt8} {B : Nat → Nat} {x a q : Nat} (v : Inv P L B x a q) (hF : F P L q (B q) = true) (h0 : F P L 0 0 = true) : pos P L q = B q := by
  obtain ⟨h1, h2⟩ := v.same h0
  by_cases e : q = 0
  · subst e; rw [v.zero rfl]; rfl
  · obtain ⟨h3, -⟩ := v.back (by omega)
    have hP : q - 1 < P.length := by have := v.hx; have := v.hq; omega
    have hs := v.star hP (by omega)
    have e1 := h1 (q - 1) (by omega)
    have e2 := pos_star P L (q - 1) hP hs
    rw [show q - 1 + 1 = q by omega] at e2
    have hb := v.bq
    have ha := v.ha
    obtain ⟨e3, e4, e5⟩ := first_of (F P L q) (L.length + 1) (pos P L (q - 1)) (B q) (by omega) hF (by omega)
    rw [← e2] at e4
    omega
set_option maxRecDepth 20000 in
theorem Inv.places {P : List Int} {L : List UInt8} {B : Nat → Nat} {x a q : Nat} (v : Inv P L B x a q) (hF : F P L q (B q) = true) (h0 : F P L 0 0 = true) (i : Nat) (h : i ≤ x) : B i = pos P L i := by
  have hp := v.posq hF h0
  by_cases hi : i < q
  · exact (v.same h0).1 i hi
  · by_cases e : i = 0
    · subst e
      obtain rfl : q = 0 := by omega
      rw [v.zero rfl]; rfl
    · rw [(v.fwd (B q) i hF (by omega) h).2 (by omega) hp]
      exact v.seg i (by omega) h
def upd (B : Nat → Nat) (i a : Nat) : Nat → Nat := fun j => if j = i then a else B j
set_option maxRecDepth 20000 in
theorem upd_at (B : Nat → Nat) (i a : Nat) : upd B i a i = a := by simp [upd]
set_option maxRecDepth 20000 in
theorem upd_ne (B : Nat → Nat) (i a j : Nat) (h : j ≠ i) : upd B i a j = B j := by simp [upd, h]
set_option maxRecDepth 20000 in
/-- Another star. -/
theorem Inv.onStar {P : List Int} {L : List UInt8} {B : Nat → Nat} {x a q : Nat} (v : Inv P L B x a q) (h : x < P.length) (hs : P[x] = -1) : Inv P L (upd B (x + 1) a) (x + 1) a (x + 1) := by
  have hB := v.hB
  refine ⟨Nat.le_refl _, h, v.ha, upd_at _ _ _, ?_, fun i _ h1 h2 => by omega, fun h => by omega, ?_, ?_, ?_⟩
  · intro i h1 h2
    obtain rfl : i = x + 1 := by omega
    simp
  · intro _ _
    simpa using hs
  · intro _
    rw [upd_at, show x + 1 - 1 = x by omega, upd_ne _ _ _ _ (by omega), hB]
    refine ⟨Nat.le_refl _, fun b h1 h2 h3 => v.all (F_star_back P L x a b h hs h1 h2 h3)⟩
  · intro h0
    obtain ⟨hb1, hb2⟩ := pos_F P L h0 q (by have := v.hq; omega)
    obtain ⟨hf1, -⟩ := v.fwd _ x hb2 v.hq (Nat.le_refl _)
    have hle := (v.same h0).2
    have hbq := v.bq
    have hlen : pos P L q + (x - q) ≤ L.length := by
      by_cases e : q = x
      · subst e; simpa using hb1
      · have hP : x - 1 < P.length := by omega
        obtain ⟨hf2, -⟩ := v.fwd _ (x - 1) hb2 (by have := v.hq; omega) (by omega)
        obtain ⟨hj, -⟩ := F_one_fwd P L (x - 1) _ hP (v.one (x - 1) hP (by have := v.hq; omega) (by have := v.hq; omega)).1 hf2
        have := v.hq
        omega
    have hFa : F P L x a = true := F_star_left P L x a _ h hs (by omega) hlen hf1
    have hFq := v.bwd hFa
    have hpl := v.places hFq h0
    refine ⟨fun i hi => by rw [upd_ne _ _ _ _ (by omega)]; exact hpl i (by omega), ?_⟩
    rw [upd_at, pos_star P L x h hs, ← hpl x (Nat.le_refl _), hB]
    obtain ⟨k, hk1, hk2, hk3⟩ := F_star_fwd P L x a h hs v.ha hFa
    exact (first_of (F P L (x + 1)) (L.length + 1) a k hk1 hk3 (by omega)).1
set_option maxRecDepth 20000 in
/-- A piece that fits. -/
theorem Inv.onOne {P : List Int} {L : List UInt8} {B : Nat → Nat} {x a q : Nat} (v : Inv P L B x a q) (h : x < P.length) (hs : P[x] ≠ -1) (hj : a < L.length) (hok : ok P[x] L[a] = true) : Inv P L (upd B (x + 1) (a + 1)) (x + 1) (a + 1) q := by
  have hB := v.hB
  have hq := v.hq
  have hbq := v.bq
  have hu : ∀ i, i ≤ x → upd B (x + 1) (a + 1) i = B i := fun i hi => upd_ne _ _ _ _ (by omega)
  refine ⟨by omega, h, hj, upd_at _ _ _, ?_, ?_, fun e => by rw [hu 0 (by omega)]; exact v.zero e, v.star, ?_, ?_⟩
  · intro i h1 h2
    rw [hu q hq]
    by_cases e : i = x + 1
    · subst e; rw [upd_at]; omega
    · rw [hu i (by omega)]; exact v.seg i h1 (by omega)
  · intro i hP h1 h2
    rw [hu i (by omega)]
    by_cases e : i = x
    · subst e; exact ⟨hs, by rw [hB]; exact hj, by simpa [hB] using hok⟩
    · exact v.one i hP h1 (by omega)
  · intro h0
    rw [hu q hq, hu (q - 1) (by omega)]
    exact v.back h0
  · intro h0
    obtain ⟨h1, h2⟩ := v.same h0
    exact ⟨fun i hi => by rw [hu i (by omega)]; exact h1 i hi, by rw [hu q hq]; exact h2⟩
set_option maxRecDepth 20000 in
theorem Inv.noq {P : List Int} {L : List UInt8} {B : Nat → Nat} {x a q : Nat} (v : Inv P L B x a q) (hF : F P L x a = false) : F P L q (B q) = false := by
  cases hc : F P L q (B q) with
  | false => rfl
  | true =>
    have := (v.fwd (B q) x hc v.hq (Nat.le_refl _)).1
    rw [v.bq, hF] at this
    cases this
set_option maxRecDepth 20000 in
/-- The last star takes one more. -/
theorem Inv.onMore {P : List Int} {L : List UInt8} {B : Nat → Nat} {x a q : Nat} (v : Inv P L B x a q) (hF : F P L x a = false) (h0 : 0 < q) (hb : B q < L.length) : Inv P L (upd B q (B q + 1)) q (B q + 1) q := by
  have hq := v.hq
  have hno := v.noq hF
  refine ⟨Nat.le_refl _, by have := v.hx; omega, hb, upd_at _ _ _, ?_, fun i _ h1 h2 => by omega, fun h => by omega, v.star, ?_, ?_⟩
  · intro i h1 h2
    obtain rfl : i = q := by omega
    simp
  · intro h1
    rw [upd_at, upd_ne _ _ _ _ (by omega)]
    obtain ⟨h2, h3⟩ := v.back h1
    exact ⟨by omega, h3⟩
  · intro h1
    obtain ⟨h2, h3⟩ := v.same h1
    refine ⟨fun i hi => by rw [upd_ne _ _ _ _ (by omega)]; exact h2 i hi, ?_⟩
    rw [upd_at]
    have hp := (pos_F P L h1 q (by have := v.hx; omega)).2
    have : pos P L q ≠ B q := fun e => by rw [e, hno] at hp; cases hp
    omega
set_option maxRecDepth 20000 in
theorem Inv.none {P : List Int} {L : List UInt8} {B : Nat → Nat} {x a q : Nat} (v : Inv P L B x a q) (hF : F P L x a = false) (h : q = 0 ∨ L.length ≤ B q) : F P L 0 0 = false := by
  cases hc : F P L 0 0 with
  | false => rfl
  | true =>
    have hno := v.noq hF
    rcases h with e | e
    · subst e; rw [v.zero rfl, hc] at hno; cases hno
    · obtain ⟨h1, h2⟩ := pos_F P L hc q (by have := v.hx; have := v.hq; omega)
      have := (v.same hc).2
      rw [show pos P L q = B q by omega, hno] at h2
      cases h2
set_option maxRecDepth 20000 in
theorem Inv.done {P : List Int} {L : List UInt8} {B : Nat → Nat} {x a q : Nat} (v : Inv P L B x a q) (hx : x = P.length) (ha : a = L.length) : F P L 0 0 = true ∧ ∀ i, i ≤ P.length → B i = pos P L i := by
  have hF : F P L x a = true := by rw [F_end P L x a (by omega)]; simp [ha]
  have h0 := v.all hF
  exact ⟨h0, fun i hi => v.places (v.bwd hF) h0 i (by omega)⟩
/-- How much is left to do. -/
def left (n m x a q : Nat) : Nat := (n + 1 - q) * ((m + 2) * (n + 2)) + (m + 1 - (a - (x - q))) * (n + 2) + (n + 1 - x)
set_option maxRecDepth 20000 in
theorem left_star (n m x a q : Nat) (hq : q ≤ x) (hx : x < n) : left n m (x + 1) a (x + 1) < left n m x a q := by
  unfold left
  have e1 : (n + 1 - (x + 1)) * ((m + 2) * (n + 2)) + (m + 2) * (n + 2) ≤ (n + 1 - q) * ((m + 2) * (n + 2)) := by
    rw [← Nat.succ_mul]
    exact Nat.mul_le_mul_right _ (by omega)
  have e2 : (m + 1 - (a - (x + 1 - (x + 1)))) * (n + 2) ≤ (m + 1) * (n + 2) := Nat.mul_le_mul_right _ (by omega)
  have e3 : (m + 2) * (n + 2) = (m + 1) * (n + 2) + (n + 2) := by rw [← Nat.succ_mul]
  generalize (n + 1 - (x + 1)) * ((m + 2) * (n + 2)) = A at *
  generalize (n + 1 - q) * ((m + 2) * (n + 2)) = A' at *
  generalize (m + 1 - (a - (x + 1 - (x + 1)))) * (n + 2) = C at *
  generalize (m + 1) * (n + 2) = D at *
  omega
set_option maxRecDepth 20000 in
theorem left_one (n m x a q : Nat) (hq : q ≤ x) (hx : x < n) (ha : x - q ≤ a) : left n m (x + 1) (a + 1) q < left n m x a q := by
  unfold left
  rw [show a + 1 - (x + 1 - q) = a - (x - q) by omega]
  omega
set_option maxRecDepth 20000 in
theorem left_more (n m x a q : Nat) (hq : q ≤ x) (hx : x ≤ n) (hb : a - (x - q) < m) : left n m q (a - (x - q) + 1) q < left n m x a q := by
  unfold left
  have e1 : (m + 1 - (a - (x - q) + 1 - (q - q))) * (n + 2) + (n + 2) = (m + 1 - (a - (x - q))) * (n + 2) := by
    rw [← Nat.succ_mul]
    congr 1
    omega
  omega

/-- What the pieces below i fit, told of the stars and points alone. -/
def marksTo (P : List Int) (L : List UInt8) (t : List UInt8) : Nat → List (List UInt8)
  | 0 => []
  | i + 1 => marksTo P L t i ++ (match P[i]? with | some x => (if x < 0 then [(t.drop (pos P L i)).take (pos P L (i + 1) - pos P L i)] else []) | none => [])
set_option maxRecDepth 20000 in
theorem marksTo_wild (P : List Int) (L t : List UInt8) (i : Nat) (h : i < P.length) (hx : P[i] < 0) : marksTo P L t (i + 1) = marksTo P L t i ++ [(t.drop (pos P L i)).take (pos P L (i + 1) - pos P L i)] := by
  rw [marksTo, List.getElem?_eq_getElem h]; simp [hx]
set_option maxRecDepth 20000 in
theorem marksTo_byte (P : List Int) (L t : List UInt8) (i : Nat) (h : i < P.length) (hx : 0 ≤ P[i]) : marksTo P L t (i + 1) = marksTo P L t i := by
  rw [marksTo, List.getElem?_eq_getElem h]; simp; omega
/-- The texts that are told so far. -/
def told (P : List Int) (L t : List UInt8) (i : Nat) : List (List UInt8) := (t :: marksTo P L t i).take 10
set_option maxRecDepth 20000 in
theorem take_one {α : Type} (l : List α) (x : α) (h : (l.take 10).length < 10) : (l ++ [x]).take 10 = l.take 10 ++ [x] := by
  have hl : l.length < 10 := by simp at h; omega
  rw [List.take_of_length_le (by simp; omega), List.take_of_length_le (by omega)]
set_option maxRecDepth 20000 in
theorem take_full {α : Type} (l : List α) (x : α) (h : ¬ (l.take 10).length < 10) : (l ++ [x]).take 10 = l.take 10 := by
  have hl : 10 ≤ l.length := by simp at h; omega
  rw [List.take_append_of_le_length hl]
set_option maxRecDepth 20000 in
theorem told_len (P : List Int) (L t : List UInt8) (i : Nat) : (told P L t i).length ≤ 10 := by unfold told; simp; omega
set_option maxRecDepth 20000 in
theorem told_wild (P : List Int) (L t : List UInt8) (i : Nat) (h : i < P.length) (hx : P[i] < 0) (hl : (told P L t i).length < 10) : told P L t (i + 1) = told P L t i ++ [(t.drop (pos P L i)).take (pos P L (i + 1) - pos P L i)] := by
  unfold told at hl ⊢
  rw [marksTo_wild P L t i h hx, ← List.cons_append, take_one _ _ hl]
set_option maxRecDepth 20000 in
theorem told_full (P : List Int) (L t : List UInt8) (i : Nat) (h : i < P.length) (hl : ¬ (told P L t i).length < 10) : told P L t (i + 1) = told P L t i := by
  unfold told at hl ⊢
  by_cases hx : P[i] < 0
  · rw [marksTo_wild P L t i h hx, ← List.cons_append, take_full _ _ hl]
  · rw [marksTo_byte P L t i h (by omega)]
set_option maxRecDepth 20000 in
theorem told_byte (P : List Int) (L t : List UInt8) (i : Nat) (h : i < P.length) (hx : 0 ≤ P[i]) : told P L t (i + 1) = told P L t i := by
  unfold told
  rw [marksTo_byte P L t i h hx]
/-- What both sides answer. -/
def wild (p t : List UInt8) : List (List UInt8) := if F (items p) (lower t) 0 0 = true then told (items p) (lower t) t (items p).length else []
end Wi
end Go.Proofs.YtadoifnfgoonaaaGreatDoor
