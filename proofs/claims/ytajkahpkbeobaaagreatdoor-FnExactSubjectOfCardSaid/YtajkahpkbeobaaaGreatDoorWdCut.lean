
/- A text up to its first blank: the program's side. -/
import Derived.Test.YtajkahpkbeobaaaGreatDoorWdPlain3
import Derived.Laws.RangeAny
import Derived.Lib.OthersKept
import Derived.Scope
namespace Go.Proofs.YtajkahpkbeobaaaGreatDoor
open Go.RowKit Go.Lib
set_option maxRecDepth 20000 in
theorem get_bang (s : ByteArray) (i : Nat) (h : i < s.size) : s.get! i = s[i] := by
  show s.data[i]! = _
  rw [getElem!_pos s.data i h]
  rfl
set_option maxRecDepth 20000 in
/-- The bytes of a character that begins above 127 are all above 127. -/
theorem decode_all (s : ByteArray) (i : Nat) (h : i < s.size) (ha : 128 ≤ (s[i]'h).toNat) : ∀ j, j < (Utf8.decode s i).2 → ∃ h2 : i + j < s.size, 128 ≤ (s[i + j]'h2).toNat := by
  have hv := Pd.decodeN_val (s.size - i) (s.get! i).toNat (s.get! (i + 1)).toNat (s.get! (i + 2)).toNat (s.get! (i + 3)).toNat
  rw [← decode_at] at hv
  intro j hj
  rcases hv with ⟨h2, -⟩ | ⟨h2, hn, -, h1, -⟩ | ⟨h2, hn, -, h1, h3, -⟩ | ⟨h2, hn, -, h1, h3, h4, -⟩
  · have : j = 0 := by omega
    subst this
    exact ⟨h, ha⟩
  · rcases (show j = 0 ∨ j = 1 by omega) with rfl | rfl
    · exact ⟨h, ha⟩
    · refine ⟨by omega, ?_⟩
      rw [← get_bang]
      omega
  · rcases (show j = 0 ∨ j = 1 ∨ j = 2 by omega) with rfl | rfl | rfl
    · exact ⟨h, ha⟩
    · refine ⟨by omega, ?_⟩
      rw [← get_bang]
      omega
    · refine ⟨by omega, ?_⟩
      rw [← get_bang]
      omega
  · rcases (show j = 0 ∨ j = 1 ∨ j = 2 ∨ j = 3 by omega) with rfl | rfl | rfl | rfl
    · exact ⟨h, ha⟩
    · refine ⟨by omega, ?_⟩
      rw [← get_bang]
      omega
    · refine ⟨by omega, ?_⟩
      rw [← get_bang]
      omega
    · refine ⟨by omega, ?_⟩
      rw [← get_bang]
      omega
set_option maxRecDepth 20000 in
/-- A character above 127, as bytes. -/
theorem enc_high (r : Int) (h : 128 ≤ r) : 2 ≤ (Utf8.encode r).size ∧ (Utf8.encode r).size ≤ 4 ∧ ∀ h2 : 1 < (Utf8.encode r).size, (Utf8.encode r).size = 2 → 128 ≤ ((Utf8.encode r)[1]'h2).toNat := by
  have hc : ¬ (if Utf8.valid r then r.toNat else Utf8.runeError) < 128 := by
    split
    · omega
    · decide
  unfold Utf8.encode
  generalize (if Utf8.valid r then r.toNat else Utf8.runeError) = c at *
  dsimp only
  rw [if_neg hc]
  by_cases h1 : c < 0x800
  · rw [if_pos h1]
    refine ⟨Nat.le_refl _, (show (2 : Nat) ≤ 4 by decide), fun _ _ => ?_⟩
    show 128 ≤ (UInt8.ofNat (0x80 + c % 64)).toNat
    rw [UInt8.toNat_ofNat_of_lt' (by simp [UInt8.size]; omega)]
    omega
  · rw [if_neg h1]
    split
    · exact ⟨(show (2 : Nat) ≤ 3 by decide), (show (3 : Nat) ≤ 4 by decide), fun _ h2 => absurd (show (3 : Nat) = 2 from h2) (by decide)⟩
    · exact ⟨(show (2 : Nat) ≤ 4 by decide), (show (4 : Nat) ≤ 4 by decide), fun _ h2 => absurd (show (4 : Nat) = 2 from h2) (by decide)⟩
set_option maxRecDepth 40000 in
set_option maxHeartbeats 4000000 in
theorem libIndexRuneHigh (r : Int) (w : World) (h1 : 128 ≤ r) (h2 : r ≤ 2147483647) :
    Calls Tryz.prog 96 #[.string ⟨#[32, 9]⟩, .int .i32 r] w fun e w' => e = .returned (.int .i64 (-1)) ∧ Below w.heap.size w w' := by
  by_cases hE : r = 65533
  · subst hE
    clear h1 h2
    go_enter Tryz.func96, Tryz.ntmps96
    go_wp2
    go_loopw [5, 6] (fun _ _ wr => ∃ k : Nat, k ≤ 2 ∧ wr = w.iter ⟨#[32, 9]⟩ k) (fun _ _ wr => 2 - wr.iterPos w.heap.size)
    case atStart => exact ⟨0, by omega, rfl⟩
    case round =>
      obtain ⟨k, hk, rfl⟩ := hrel
      have hp : ∀ k, (w.iter (⟨#[32, 9]⟩ : ByteArray) k).iterPos w.heap.size = k := fun k => iterPos_of (World.iter_heap _ _ _)
      rcases (show k = 0 ∨ k = 1 ∨ k = 2 by omega) with rfl | rfl | rfl
      · have hnx := fun ty => run_next_ascii (P := Tryz.prog) w ⟨#[32, 9]⟩ 0 ty (by decide) (by decide)
        go_wp2
        go_roundw
        case rel => exact ⟨1, by omega, rfl⟩
        case measure => rw [hp, hp]; omega
      · have hnx := fun ty => run_next_ascii (P := Tryz.prog) w ⟨#[32, 9]⟩ 1 ty (by decide) (by decide)
        go_wp2
        go_roundw
        case rel => exact ⟨2, by omega, rfl⟩
        case measure => rw [hp, hp]; omega
      · have hnx := fun ty => run_next_end (P := Tryz.prog) w ⟨#[32, 9]⟩ 2 ty (by decide)
        go_wp2
        go_ret
        exact ⟨rfl, (Below.refl _ _).alloc (Nat.le_refl _) _⟩
  · have hV := Tryz.utf8_ValidRune r w
    have g1 : ¬ r < 128 := by omega
    have g2 : (0 : Int) ≤ r := by omega
    cases hv : Lib.validRune r
    · rw [hv] at hV
      go_enter Tryz.func96, Tryz.ntmps96
      go_wp2_with (go_at_call 117; go_must (refine hV.mono ?_; rintro e w2 ⟨rfl, rfl⟩))
      go_ret
      exact ⟨rfl, Below.refl _ _⟩
    · rw [hv] at hV
      obtain ⟨z1, z2, z3⟩ := enc_high r h1
      obtain ⟨rs, hrs⟩ : ∃ rs, Utf8.encode r = rs := ⟨_, rfl⟩
      rw [hrs] at z1 z2 z3
      go_enter Tryz.func96, Tryz.ntmps96
      go_wp2_with (go_at_call 117; go_must (refine hV.mono ?_; rintro e w2 ⟨rfl, rfl⟩))
      have hB := Tryz.strings_IndexByte (ByteArray.mk #[]) 0
      refine wp_scope_straight ?_
      go_wp2
      go_loopw [9] (fun v wr => v = .int .i64 ((rs.size : Int) - 1) ∧ wr = w2) (fun _ _ => 0)
      case atStart => exact ⟨rfl, rfl⟩
      case round =>
        obtain ⟨rfl, rfl⟩ := hrel
        by_cases h2s : rs.size = 2
        · have hlt1 : 1 < rs.size := by omega
          have z4 := z3 hlt1 h2s
          have z5 := UInt8.toNat_lt (rs[1]'hlt1)
          have hix : ((rs.size : Int) - 1) = 1 := by omega
          have hbi := fun W => Tryz.strings_IndexByte (ByteArray.mk #[]) ((rs[1]'hlt1).toNat : Int) W
          have hne : ((((⟨#[32, 9]⟩ : ByteArray)[1]'(by decide)).toNat : Int) != ((rs[1]'hlt1).toNat : Int)) = true := by
            have e9 : ((⟨#[32, 9]⟩ : ByteArray)[1]'(by decide)).toNat = 9 := rfl
            rw [bne_iff_ne, e9]
            omega
          have e0 : indexByte [] ((((rs[1]'hlt1).toNat : Int).toNat).toUInt8) = -1 := rfl
          have hgt : ¬ ((rs.size : Int) - 1) < 0 := by omega
          have hcN : (((rs.size : Int) - 1).toNat) = 1 := by omega
          clear hB hV
          go_wp2
          refine wp_scope_straight ?_
          go_wp2
          go_quiet (fail)
          have hbd : Below wr.heap.size wr (wr.drewN nq) := Go.below_drewN (Below.refl _ _) _
          go_wp2
          obtain ⟨V, hV⟩ : ∃ V, wr.drewN nq = V := ⟨_, rfl⟩
          rw [hV] at hbd ⊢
          clear hV
          have hMe := mkHid (fun d os => Calls.regrown_of ((hbi (Go.Sort.grow (redrawn V d) os)).mono (fun e w' h => (⟨h.1.trans (by rw [e0]), by rw [h.2]; exact Below.refl _ _⟩ : e = .returned (.int .i64 (-1)) ∧ Below (Go.Sort.grow (redrawn V d) os).heap.size (Go.Sort.grow (redrawn V d) os) w'))))
          clear hbi
          have hw2 : IntKind.i64.wrap 2 = 2 := by decide
          have hex : (⟨#[32, 9]⟩ : ByteArray).extract 2 2 = ⟨#[]⟩ := rfl
          refine wp_region_quiet_below (by kernel_rfl) (by kernel_rfl) ?_
          iterate 7 (quiet_step (fail))
          quiet_step (first | exact hMe.out _ _ | exact ⟨trivial, hMe.out _ _⟩ | (trace_state; fail))
          repeat (quiet_step (fail))
          refine wpQuiet_nil ?_
          intro _ hw'
          obtain ⟨⟨dq, osq⟩, hw''⟩ := hw'
          subst hw''
          have hbq := hbd.trans ((below_regrown V dq osq).mono hbd.size)
          generalize Go.Sort.grow (redrawn V dq) osq = wq at *
          clear hMe
          go_wp2
          simp (config := { zetaDelta := true }) only [Exit.noGoto, Exit.inBlock, Exit.then]
          go_ret
          exact ⟨rfl, hbq⟩
        · have q1 : ¬ ((rs.size : Int) - 1) < 2 := by omega
          clear hB hV
          go_wp2
          go_ret
          exact ⟨rfl, Below.refl _ _⟩

set_option maxRecDepth 20000 in
theorem tx_cons (c : UInt8) (r : List UInt8) : Pw.tx (c :: r) = if Pw.bl c then 0 else Pw.tx r + 1 := by rw [Pw.tx]
set_option maxRecDepth 20000 in
theorem tx_skip (l : List UInt8) (k n : Nat) (hk : k + n ≤ l.length) (h : ∀ j (h : j < l.length), k ≤ j → j < k + n → Pw.bl l[j] = false) (hp : Pw.tx (l.drop k) + k = Pw.tx l) : Pw.tx (l.drop (k + n)) + (k + n) = Pw.tx l := by
  induction n generalizing k with
  | zero => exact hp
  | succ n ih =>
    have hlt : k < l.length := by omega
    have h1 : Pw.tx (l.drop (k + 1)) + (k + 1) = Pw.tx l := by
      rw [List.drop_eq_getElem_cons hlt, tx_cons] at hp
      rw [h k hlt (Nat.le_refl _) (by omega), if_neg (by decide)] at hp
      rw [← hp]
      omega
    have := ih (k + 1) (by omega) (fun j hj h1 h2 => h j hj (by omega) (by omega)) h1
    rw [show k + (n + 1) = k + 1 + n by omega]
    exact this
set_option maxRecDepth 20000 in
theorem tx_hit (l : List UInt8) (k : Nat) (hk : k < l.length) (h : Pw.bl l[k] = true) (hp : Pw.tx (l.drop k) + k = Pw.tx l) : Pw.tx l = k := by
  rw [List.drop_eq_getElem_cons hk, tx_cons, if_pos h] at hp
  omega
set_option maxRecDepth 20000 in
theorem tx_end (l : List UInt8) (k : Nat) (hk : l.length ≤ k) (hp : Pw.tx (l.drop k) + k = Pw.tx l) : Pw.tx l = l.length := by
  have h1 := Pw.tx_le l
  rw [List.drop_eq_nil_of_le hk, show Pw.tx [] = 0 from rfl] at hp
  omega
set_option maxRecDepth 20000 in
theorem bl_high (c : UInt8) (h : 128 ≤ c.toNat) : Pw.bl c = false := by
  unfold Pw.bl
  rw [Bool.or_eq_false_iff]
  constructor
  · rw [beq_eq_false_iff_ne]; rintro rfl; exact absurd h (by decide)
  · rw [beq_eq_false_iff_ne]; rintro rfl; exact absurd h (by decide)
set_option maxRecDepth 40000 in
set_option maxHeartbeats 4000000 in
theorem libIndexAnyShort (s : ByteArray) (w : World) (hs : s.size ≤ 8) :
    Calls Tryz.prog 68 #[.string s, .string ⟨#[32, 9]⟩] w fun e w' => e = .returned (.int .i64 (indexAny s.data.toList [32, 9])) ∧ Below w.heap.size w w' := by
  have hll : s.data.toList.length = s.size := by simp
  have h8 : ¬ (8 : Int) < (s.size : Int) := by omega
  have hA := mkHid (fun V => Tryz.strings_shouldUseASCIISet (s.size : Int) V)
  rw [Pw.index_tx, hll]
  obtain ⟨R, hR⟩ : ∃ R : Int, (if Pw.tx s.data.toList = s.size then (-1 : Int) else (Pw.tx s.data.toList : Int)) = R := ⟨_, rfl⟩
  rw [hR]
  have HR := mkHid hR
  clear hR
  go_enter Tryz.func68, Tryz.ntmps68
  go_wp2_with fail
  refine (hA.out _).mono ?_
  rintro e w2 ⟨rfl, rfl⟩
  clear hA
  go_wp2
  go_loopw [9, 10] (fun _ _ wr => ∃ k : Nat, k ≤ s.size ∧ Hid (wr.heap[w2.heap.size]? = some (.stringIter s k)) ∧ Hid (Pw.tx (s.data.toList.drop k) + k = Pw.tx s.data.toList) ∧ Hid (Below w2.heap.size w2 wr)) (fun _ _ wr => s.size - wr.iterPos w2.heap.size)
  case atStart => exact ⟨0, Nat.zero_le _, mkHid (World.iter_heap _ _ _), mkHid rfl, mkHid ((Below.refl _ _).alloc (Nat.le_refl _) _)⟩
  case round =>
    obtain ⟨k, hk, Hit, Ht, Hb⟩ := hrel
    have hip : wr.iterPos w2.heap.size = k := iterPos_of Hit.out
    by_cases hlt : k < s.size
    · have hpl : k < s.data.toList.length := by omega
      have hse : s.data.toList[k]'hpl = s[k] := by simp; rfl
      by_cases ha : (s[k]'hlt).toNat < 128
      · have hnext := fun ty => run_next_ascii_at (P := Tryz.prog) wr w2.heap.size s k ty Hit.out hlt ha
        obtain ⟨V, hV⟩ : ∃ V, V = wr.iterAt w2.heap.size s (k + 1) := ⟨_, rfl⟩
        have HitV : Hid (V.heap[w2.heap.size]? = some (.stringIter s (k + 1))) := mkHid (by rw [hV]; exact iterAt_heap _ _ _ _ _ Hit.out)
        have HbV : Hid (Below w2.heap.size w2 V) := mkHid (by rw [hV]; exact below_iterAt Hb.out (Nat.le_refl _) _ _)
        rw [← hV] at hnext
        have hipV : V.iterPos w2.heap.size = k + 1 := iterPos_of HitV.out
        clear hV
        have hI := mkHid (fun W => Tryz.strings_IndexRune_ascii ⟨#[32, 9]⟩ ((s[k]'hlt).toNat : Int) W (by omega) (by omega))
        cases hb : Pw.bl s[k] with
        | true =>
          have hx := tx_hit s.data.toList k hpl (by rw [hse]; exact hb) Ht.out
          have Hx := mkHid hx
          have hi : 0 ≤ indexByte [32, 9] ((((s[k]'hlt).toNat : Nat) : Int).toNat).toUInt8 := by
            have e : ((((s[k]'hlt).toNat : Nat) : Int).toNat).toUInt8 = s[k] := by simp
            rw [e]
            unfold Pw.bl at hb
            rw [Bool.or_eq_true, beq_iff_eq, beq_iff_eq] at hb
            rcases hb with h | h
            · rw [h]; decide
            · rw [h]; decide
          generalize indexByte [32, 9] ((((s[k]'hlt).toNat : Nat) : Int).toNat).toUInt8 = iv at *
          clear hx hb Ht
          go_wp2_with fail
          refine (hI.out _).mono ?_
          rintro e w3 ⟨rfl, rfl⟩
          clear hI
          go_wp2
          go_ret
          exact ⟨by rw [← HR.out, Hx.out, if_neg (by omega)]; rfl, HbV.out⟩
        | false =>
          have Hx := mkHid (tx_skip s.data.toList k 1 (by omega) (fun j hj h1 h2 => by
            obtain rfl : j = k := by omega
            rw [hse]
            exact hb) Ht.out)
          have hi : indexByte [32, 9] ((((s[k]'hlt).toNat : Nat) : Int).toNat).toUInt8 = -1 := by
            have e : ((((s[k]'hlt).toNat : Nat) : Int).toNat).toUInt8 = s[k] := by simp
            rw [e]
            unfold Pw.bl at hb
            rw [Bool.or_eq_false_iff, beq_eq_false_iff_ne, beq_eq_false_iff_ne] at hb
            simp [indexByte, Ne.symm hb.1, Ne.symm hb.2]
          rw [hi] at hI
          clear hi hb Ht
          go_wp2_with fail
          refine (hI.out _).mono ?_
          rintro e w3 ⟨rfl, rfl⟩
          clear hI
          go_wp2
          go_roundw
          case rel => exact ⟨k + 1, by omega, HitV, Hx, HbV⟩
          case measure => rw [hip, hipV]; omega
      · have h128 : 128 ≤ (s[k]'hlt).toNat := by omega
        have hd1 := decode_high s k hlt h128
        have hd2 := decode_le s k
        have hda := decode_all s k hlt h128
        have hnext := fun ty => run_next_any_at (P := Tryz.prog) wr w2.heap.size s k ty Hit.out hlt
        obtain ⟨d, hd⟩ : ∃ d, Utf8.decode s k = d := ⟨_, rfl⟩
        rw [hd] at hd1 hd2 hda hnext
        obtain ⟨r, n⟩ := d
        dsimp only at hd1 hd2 hda hnext
        have hkn : k + n ≤ s.size := by
          obtain ⟨h2, -⟩ := hda (n - 1) (by omega)
          omega
        have Hx := mkHid (tx_skip s.data.toList k n (by omega) (fun j hj h1 h2 => by
          obtain ⟨h3, h4⟩ := hda (j - k) (by omega)
          have e : s.data.toList[j]'hj = s[k + (j - k)]'h3 := by
            simp only [show k + (j - k) = j by omega]
            simp
            rfl
          rw [e]
          exact bl_high _ h4) Ht.out)
        obtain ⟨V, hV⟩ : ∃ V, V = wr.iterAt w2.heap.size s (k + n) := ⟨_, rfl⟩
        have HitV : Hid (V.heap[w2.heap.size]? = some (.stringIter s (k + n))) := mkHid (by rw [hV]; exact iterAt_heap _ _ _ _ _ Hit.out)
        have HbV : Hid (Below w2.heap.size w2 V) := mkHid (by rw [hV]; exact below_iterAt Hb.out (Nat.le_refl _) _ _)
        rw [← hV] at hnext
        have hltV : w2.heap.size < V.heap.size := heap_lt HitV.out
        have hI := mkHid (libIndexRuneHigh (r : Int) V (by omega) (by omega))
        clear hV hda hd Ht
        go_wp2_with fail
        refine hI.out.mono ?_
        rintro e w3 ⟨rfl, hb3⟩
        have HitW : Hid (w3.heap[w2.heap.size]? = some (.stringIter s (k + n))) := mkHid ((hb3.block _ hltV).trans HitV.out)
        have HbW : Hid (Below w2.heap.size w2 w3) := mkHid (HbV.out.trans (hb3.mono (by omega)))
        have hipW : w3.iterPos w2.heap.size = k + n := iterPos_of HitW.out
        clear hI hb3
        go_wp2
        go_roundw
        case rel => exact ⟨k + n, hkn, HitW, Hx, HbW⟩
        case measure => rw [hip, hipW]; omega
    · have hx := tx_end s.data.toList k (by omega) Ht.out
      have hn : ¬ k < s.size := hlt
      have hnext := fun ty => run_next_end_at (P := Tryz.prog) wr w2.heap.size s k ty Hit.out hn
      have e1 : Pw.tx s.data.toList = s.size := by omega
      have E1 := mkHid e1
      clear Ht hx e1
      go_wp2
      go_ret
      exact ⟨by rw [← HR.out, if_pos E1.out]; rfl, Hb.out⟩
set_option maxRecDepth 20000 in
theorem libIndexAny (s : ByteArray) (w : World) (hs : s.size ≤ 1100000) :
    Calls Tryz.prog 68 #[.string s, .string ⟨#[32, 9]⟩] w fun e w' => e = .returned (.int .i64 (indexAny s.data.toList [32, 9])) ∧ Below w.heap.size w w' := by
  by_cases h8 : s.size ≤ 8
  · exact libIndexAnyShort s w h8
  · have h116 : ∀ w, (zeroValue 111).run Tryz.prog w = .ok (.agg (Array.replicate 256 (.bool false))) w := fun w => by kernel_rfl
    refine (Tryz.strings_IndexAny_long h116 s ⟨#[32, 9]⟩ w (by show 2 ≤ 2; omega) (by omega) (by omega) (by show 2 < _; omega) (fun j b hj => ?_)).mono ?_
    · have : ∀ b ∈ ([32, 9] : List UInt8), b.toNat < 128 := by decide
      exact this b (List.mem_of_getElem? hj)
    · rintro e w' ⟨rfl, rfl⟩
      exact ⟨rfl, ((Below.refl _ _).alloc (Nat.le_refl _) _).alloc (by simp) _⟩
set_option maxRecDepth 20000 in
set_option maxHeartbeats 1000000 in
theorem implCutText (s : ByteArray) (w : World) (hs : s.size ≤ 1100000) :
    Calls Tryz.prog 43 #[.string s] w fun e w' => e = .returned (.tuple #[.string (s.extract 0 (Pw.tx s.data.toList)), .string (s.extract (Pw.tx s.data.toList) s.size)]) ∧ Below w.heap.size w w' := by
  have hll : s.data.toList.length = s.size := by simp
  have cI := mkHid (libIndexAny s w hs)
  have hle := Pw.tx_le s.data.toList
  have hix := Pw.index_tx s.data.toList
  rw [hll] at hle hix
  rw [hix] at cI
  clear hix
  generalize Pw.tx s.data.toList = t at *
  by_cases h : t = s.size
  · rw [if_pos h] at cI
    subst h
    have e1 : s.extract 0 s.size = s := by simp
    have e2 : s.extract s.size s.size = ⟨#[]⟩ := by
      apply ByteArray.ext
      simp
    rw [e1, e2]
    clear hle e1 e2
    go_enter Tryz.func43, Tryz.ntmps43
    go_wp2_with fail
    refine cI.out.mono ?_
    rintro e w1 ⟨rfl, hb⟩
    have Hb := mkHid hb
    clear hb cI
    go_wp2
    go_ret2
    exact ⟨rfl, Hb.out⟩
  · rw [if_neg h] at cI
    have h1 : ¬ (t : Int) < 0 := by omega
    have h2 : (t : Int) ≤ (s.size : Int) := by omega
    clear h
    go_enter Tryz.func43, Tryz.ntmps43
    go_wp2_with fail
    refine cI.out.mono ?_
    rintro e w1 ⟨rfl, hb⟩
    have Hb := mkHid hb
    clear hb cI
    go_wp2
    go_quiet (fail)
    have Hb2 := mkHid (Go.below_drewN Hb.out nq)
    go_wp2
    go_ret2
    exact ⟨rfl, Hb2.out⟩
end Go.Proofs.YtajkahpkbeobaaaGreatDoor
