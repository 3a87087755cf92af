/- FnSums: its walk. -/
import Derived.Test.YtkjjcoliaoddjaaDrawKey
import Derived.Test.YtkjjcoliaoddjaaSumImpl
import Derived.Test.YtkjjcoliaoddjaaLow
namespace Go.Proofs.Ytkjjcoliaoddjaa
open Go.RowKit Go.Lib
/-- The sum of a text under any key. -/
def sumN (t : ByteArray) (x y : Int) : Nat × Nat := if keyOk x y = false then (0, 0) else (Ps.sm x.toNat 1 t.data.toList, Ps.sm y.toNat 1 t.data.toList)
theorem specSumAny (d s t : ByteArray) (x y : Int) (w : World) (ht : t.size ≤ 200000) :
    Calls Try.prog 6 #[keyV d s x y, .string t] w fun e w' => e = .returned (sumV (sumN t x y).1 (sumN t x y).2) ∧ Below w.heap.size w w' := by
  unfold sumN
  by_cases h : keyOk x y = false
  · rw [if_pos h]
    exact specSumBad d s t x y w (by omega) (.inl h)
  · rw [if_neg h]
    rw [Bool.not_eq_false] at h
    have hk := (keyOk_iff x y).1 h
    obtain ⟨A, rfl⟩ : ∃ A : Nat, x = A := ⟨x.toNat, by omega⟩
    obtain ⟨B, rfl⟩ : ∃ B : Nat, y = B := ⟨y.toNat, by omega⟩
    exact specSum d s t A B w ht (by omega) (by omega) (by omega) (by omega)
theorem implSumAny (d s t : ByteArray) (x y : Int) (w : World) (hd : d.size ≤ 100000) (hs : s.size ≤ 100000) (ht : t.size ≤ 200000) :
    Calls Try.prog 5 #[keyV d s x y, .string t] w fun e w' => e = .returned (sumV (sumN t x y).1 (sumN t x y).2) ∧ Below w.heap.size w w' := by
  unfold sumN
  by_cases h : keyOk x y = false
  · rw [if_pos h]
    exact implSumBad d s t x y w hd hs h
  · rw [if_neg h]
    rw [Bool.not_eq_false] at h
    have hk := (keyOk_iff x y).1 h
    obtain ⟨A, rfl⟩ : ∃ A : Nat, x = A := ⟨x.toNat, by omega⟩
    obtain ⟨B, rfl⟩ : ∃ B : Nat, y = B := ⟨y.toNat, by omega⟩
    exact implSum d s t A B w hd hs ht (by omega) (by omega) (by omega) (by omega)
set_option maxHeartbeats 2000000 in
theorem drawSumOf (o : Option Addr) (c : List UInt8) (cp : Nat) (w : World) (hc : Code w.heap.size w o c) (hl : c.length ≤ 1048576) :
    Calls Try.prog 4 #[.slice o c.length cp] w fun e w' => ∃ (d s t : ByteArray) (x y : Int), e = .returned (.tuple #[keyV d s x y, .string t]) ∧ d.size ≤ 20 ∧ s.size ≤ 20 ∧ t.size ≤ 900 ∧ -1 ≤ x ∧ x ≤ 2147483647 ∧ 3 ≤ y ∧ y ≤ 2000000002 ∧ Below w.heap.size w w' := by
  obtain ⟨W, hW⟩ : ∃ W, W = w.alloc key0 := ⟨_, rfl⟩
  have hbA : Below w.heap.size w W := by rw [hW]; exact (Below.refl _ _).alloc (Nat.le_refl _) _
  have hWs : W.heap.size = w.heap.size + 1 := by rw [hW]; simp
  have HR : Hid (W.heap[w.heap.size]? = some key0) := by rw [hW]; exact hp_alloc w key0
  obtain ⟨g, hg⟩ : ∃ g, W.heap.size = g := ⟨_, rfl⟩
  have hgw : w.heap.size < g := by omega
  have HC : Hid (Code g W o c) := (hc.below hbA).mono (by omega)
  have hS := srcNew o c.length cp W hl
  rw [hg] at hS
  have HG : Hid (W.heap.size = g) := hg
  clear hc hWs hg
  go_enter Try.func4, Try.ntmps4
  go_wp2_with fail
  rw [← hW]
  refine hS.mono ?_
  rintro e w1 ⟨z, rfl, hz, hs1, hb1⟩
  have hK := srcKey g o c cp 0 z w1 hs1 (HC.out.below hb1) (by omega) hl
  have HR1 : Hid (w1.heap[w.heap.size]? = some key0) := (hb1.block _ (by omega)).trans HR.out
  have HCW : Hid (Code g w1 o c) := HC.out.below hb1
  have hsz1 := hs1.lt
  have HB1 : Hid (Below w.heap.size w w1) := hbA.trans (hb1.mono (by omega))
  clear hS HR hbA HC hs1 hb1
  go_wp2_with fail
  refine hK.mono ?_
  rintro e w2 ⟨d, s, x, y, a2, rfl, hd, hs, hx0, hx1, hy0, hy1, ha2, hs2, hg2⟩
  have hL := srcLong g o c cp a2 z w2 hs2 (HCW.out.grown hg2 (Nat.le_refl _)) (by omega) hl hz
  clear hK
  go_wp2_with fail
  refine hL.mono ?_
  rintro e w3 ⟨t, a3, rfl, ht, -, -, hg3⟩
  have hg13 := gr_trans hg2 hg3
  have hR3 : w3.heap[w.heap.size]? = some (.cells #[.string ⟨#[]⟩, .string ⟨#[]⟩, .int .i64 0, .int .i64 0] 24 (0, 0)) := (hg13.block _ (hp_lt HR1.out) (by intro e; have := Option.some.inj e; omega)).trans HR1.out
  have hB3 : Below w.heap.size w w3 := ⟨hg13.os.trans HB1.out.os, hg13.tape.trans HB1.out.tape, hg13.output.trans HB1.out.output, Nat.le_trans HB1.out.size hg13.size, fun i hi => (hg13.block i (by have := HB1.out.size; omega) (by intro e; have := Option.some.inj e; omega)).trans (HB1.out.block i hi)⟩
  clear hL hg2 hg3 hg13 HR1 HB1 hs2 hW
  go_wp2_with (first | (refine wpL_store_row rfl 24 _ _ rfl w.heap.size #[.string d, .string s, .int .i64 x, .int .i64 y] rfl rfl 24 _ hR3 (by kernel_rfl) rfl (by simp [Value.oneCell']) ?_) | go_in)
  have hh : (w3.setRow w.heap.size #[.string d, .string s, .int .i64 x, .int .i64 y]).heap[w.heap.size]? = some (.cells #[.string d, .string s, .int .i64 x, .int .i64 y] 24 (0, 0)) := setRow_heap _ _ _ _ _ _ hR3
  have hBe := hB3.grown (grown_setRow w3 w.heap.size #[.string d, .string s, .int .i64 x, .int .i64 y]) hB3.size (fun j hj => by cases hj; omega)
  generalize w3.setRow w.heap.size #[.string d, .string s, .int .i64 x, .int .i64 y] = V at hh hBe
  have c0 : V.cell? ⟨w.heap.size, 0, none⟩ = some (.string d) := by simp [World.cell?, hh]
  have c1 : V.cell? ⟨w.heap.size, 1, none⟩ = some (.string s) := by simp [World.cell?, hh]
  have c2 : V.cell? ⟨w.heap.size, 2, none⟩ = some (.int .i64 x) := by simp [World.cell?, hh]
  have c3 : V.cell? ⟨w.heap.size, 3, none⟩ = some (.int .i64 y) := by simp [World.cell?, hh]
  refine bodyPost_ret (v := .tuple #[keyV d s x y, .string t]) (by simp [results, Try.results4, go_sem, c0, c1, c2, c3]) rfl ?_
  exact ⟨d, s, t, x, y, rfl, hd, hs, ht, hx0, hx1, hy0, hy1, hBe⟩
theorem lawAt (o : Option Addr) (c : List UInt8) (cp k : Nat) (w : World) (hc : Code w.heap.size w o c) (hk : k ≤ 10) :
    Calls Try.prog 7 #[.slice o c.length cp, .int .i64 k] w fun e w' => ∃ v : Nat, e = .returned (.int .i64 v) ∧ v < 256 ∧ w = w' := by
  by_cases h : k < c.length
  · obtain ⟨a, rfl, ha, hcell⟩ := hc k h
    have h8 : c[k].toNat < 256 := UInt8.toNat_lt _
    generalize c[k].toNat = x at *
    go_enter Try.func7, Try.ntmps7
    go_wp2
    go_ret
    exact ⟨x, rfl, h8, rfl⟩
  · go_enter Try.func7, Try.ntmps7
    go_wp2
    go_ret
    exact ⟨(k * 61 + 29) % 256, by first | rfl | (congr 1), Nat.mod_lt _ (by omega), rfl⟩
theorem wrap8 (n : Int) (h0 : 0 ≤ n) (h1 : n < 256) : IntKind.u8.wrap n = n := by
  simp [IntKind.wrap, IntKind.bits, IntKind.signed]
  omega
theorem xor8 (a b : Nat) (ha : a < 256) (hb : b < 256) : bits .xor .u8 (a : Int) (b : Int) = ((a ^^^ b : Nat) : Int) := by
  have hx : a ^^^ b < 2 ^ 8 := Nat.xor_lt_two_pow (by omega) (by omega)
  have h1 : (BitVec.ofInt 8 (a : Int)).toNat = a := by
    rw [BitVec.ofInt_natCast, BitVec.toNat_ofNat]; exact Nat.mod_eq_of_lt (by omega)
  have h2 : (BitVec.ofInt 8 (b : Int)).toNat = b := by
    rw [BitVec.ofInt_natCast, BitVec.toNat_ofNat]; exact Nat.mod_eq_of_lt (by omega)
  show IntKind.u8.wrap ((BitVec.ofInt 8 (a : Int) ^^^ BitVec.ofInt 8 (b : Int)).toNat : Int) = _
  rw [BitVec.toNat_xor, h1, h2, wrap8 _ (by omega) (by omega)]
theorem xor8_byte (c : UInt8) (q : Nat) (hq : q < 255) : ∃ r : UInt8, bits .xor .u8 (c.toNat : Int) (1 + (q : Int)) = (r.toNat : Int) ∧ r ≠ c := by
  have hc : c.toNat < 256 := UInt8.toNat_lt _
  have hx : c.toNat ^^^ (1 + q) < 2 ^ 8 := Nat.xor_lt_two_pow (by omega) (by omega)
  refine ⟨UInt8.ofNat (c.toNat ^^^ (1 + q)), ?_, ?_⟩
  · rw [show (1 : Int) + (q : Int) = ((1 + q : Nat) : Int) by omega, xor8 _ _ hc (by omega), UInt8.toNat_ofNat', Nat.mod_eq_of_lt (by omega)]
  · intro e
    have h := congrArg UInt8.toNat e
    rw [UInt8.toNat_ofNat', Nat.mod_eq_of_lt (by omega)] at h
    have h2 := congrArg (c.toNat ^^^ ·) h
    simp only [Nat.xor_self] at h2
    rw [← Nat.xor_assoc, Nat.xor_self, Nat.zero_xor] at h2
    omega
theorem turn_ne (A : Nat) (l : List UInt8) (j : Nat) (hj : j < l.length) (r : UInt8) (hr : r ≠ l[j]) (h0 : 1 ≤ A) (h1 : A < 2147483647) : Ps.sm A 1 (l.set j r) ≠ Ps.sm A 1 l := by
  rw [List.set_eq_take_append_cons_drop, if_pos hj]
  have e : l = l.take j ++ l[j] :: l.drop (j + 1) := by rw [← List.drop_eq_getElem_cons hj, List.take_append_drop]
  intro h
  refine Ps.sm_turn A 1 h0 h1 (l.take j) (l.drop (j + 1)) r l[j] hr ?_
  rw [h, ← e]
set_option maxRecDepth 10000 in
set_option maxHeartbeats 4000000 in
theorem sumsWalk (o1 o2 : Option Addr) (c d : List UInt8) (cp1 cp2 : Nat) (w : World) (hc : Code w.heap.size w o1 c) (hd : Code w.heap.size w o2 d) (hl1 : c.length ≤ 1048576) (hl2 : d.length ≤ 1048576) :
    Calls Try.prog 3 #[.slice o1 c.length cp1, .slice o2 d.length cp2] w fun e w' => e = .returned (.bool true) ∧ Below w.heap.size w w' := by
  have HE : Hid (Code w.heap.size w o2 d) := hd
  have hD := drawSumOf o1 c cp1 w hc hl1
  clear hc hd
  go_enter Try.func3, Try.ntmps3
  go_wp2_with fail
  refine hD.mono ?_
  rintro e w1 ⟨kd, ks, t, x, y, rfl, hkd, hks, ht, -, -, -, -, hb1⟩
  have hb2 : Below w.heap.size w (w1.alloc (.cells #[.string kd, .string ks, .int .i64 x, .int .i64 y] 24)) := hb1.alloc hb1.size _
  have HK2 : Hid ((w1.alloc (.cells #[.string kd, .string ks, .int .i64 x, .int .i64 y] 24)).heap[w1.heap.size]? = some (.cells #[.string kd, .string ks, .int .i64 x, .int .i64 y] 24 (0, 0))) := heap_alloc_at _ _
  have HB2 : Hid (Below w.heap.size w (w1.alloc (.cells #[.string kd, .string ks, .int .i64 x, .int .i64 y] 24))) := hb2
  have hI := fun w => implSumAny kd ks t x y w (by omega) (by omega) (by omega)
  have hS := fun w => specSumAny kd ks t x y w (by omega)
  obtain ⟨a, ha⟩ : ∃ a, (sumN t x y).1 = a := ⟨_, rfl⟩
  obtain ⟨b, hb⟩ : ∃ b, (sumN t x y).2 = b := ⟨_, rfl⟩
  simp only [ha, hb] at hS hI
  have HS := (show Hid _ from hS)
  have HA : Hid ((sumN t x y).1 = a) := ha
  have HBB : Hid ((sumN t x y).2 = b) := hb
  clear hD hS ha hb hb2
  go_wp2_with fail
  refine (hI _).mono ?_
  rintro e w3 ⟨rfl, hb3⟩
  have hk3 := (hb3.block _ (heap_lt HK2.out)).trans HK2.out
  have hB3 : Below w.heap.size w w3 := HB2.out.trans (hb3.mono HB2.out.size)
  have hb4 : Below w3.heap.size w3 (w3.alloc (.cells #[.int .i64 a, .int .i64 b] 28)) := (Below.refl _ _).alloc (Nat.le_refl _) _
  have hs4 : (w3.alloc (.cells #[.int .i64 a, .int .i64 b] 28)).heap[w3.heap.size]? = some (.cells #[.int .i64 a, .int .i64 b] 28 (0, 0)) := heap_alloc_at _ _
  have hk4 := (hb4.block _ (heap_lt hk3)).trans hk3
  have hB4 : Below w.heap.size w (w3.alloc (.cells #[.int .i64 a, .int .i64 b] 28)) := hB3.trans (hb4.mono hB3.size)
  have hgk : w1.heap.size < w3.heap.size := by have := hb3.size; simp at this; omega
  clear HK2 HB2 hb3 hk3 hb4 hI
  go_wp2
  obtain ⟨V, hV⟩ : ∃ V, V = w3.alloc (.cells #[.int .i64 a, .int .i64 b] 28) := ⟨_, rfl⟩
  rw [← hV] at hs4 hk4 hB4 ⊢
  clear hV
  obtain ⟨g3, hg3⟩ : ∃ g3, g3 = w3.heap.size := ⟨_, rfl⟩
  obtain ⟨g1, hg1⟩ : ∃ g1, g1 = w1.heap.size := ⟨_, rfl⟩
  rw [← hg3] at hs4 hgk ⊢
  rw [← hg1] at hk4 hgk ⊢
  have hB1 : w.heap.size ≤ g1 := by rw [hg1]; exact hb1.size
  clear hg3 hg1 hB3 hb1
  have k0 : V.cell? ⟨g1, 0, none⟩ = some (.string kd) := by simp [World.cell?, hk4]
  have k1 : V.cell? ⟨g1, 1, none⟩ = some (.string ks) := by simp [World.cell?, hk4]
  have k2 : V.cell? ⟨g1, 2, none⟩ = some (.int .i64 x) := by simp [World.cell?, hk4]
  have k3 : V.cell? ⟨g1, 3, none⟩ = some (.int .i64 y) := by simp [World.cell?, hk4]
  have s0 : V.cell? ⟨g3, 0, none⟩ = some (.int .i64 a) := by simp [World.cell?, hs4]
  have s1 : V.cell? ⟨g3, 1, none⟩ = some (.int .i64 b) := by simp [World.cell?, hs4]
  have k0' := cell_regrown k0
  have k1' := cell_regrown k1
  have k2' := cell_regrown k2
  have k3' := cell_regrown k3
  have s0' := cell_regrown s0
  have s1' := cell_regrown s1
  have cS : ∀ dr os, Calls Try.prog 6 #[keyV kd ks x y, .string t] (Go.Sort.grow (redrawn V dr) os) fun e w'' => e = .returned (sumV a b) ∧ ∃ p : Regrown, w'' = Go.Sort.grow (redrawn V p.d) p.os := fun dr os => Calls.regrown_of (HS.out _)
  have CS := (show Hid _ from cS)
  clear cS
  refine wp_region_quiet_below (by kernel_rfl) (by kernel_rfl) ?_
  quiet_step (fail)
  quiet_step (fail)
  quiet_step (fail)
  quiet_step (exact CS.out _ _)
  quiet_step (fail)
  refine wpQuiet_nil ?_
  intro _ hw'
  obtain ⟨⟨dq, osq⟩, hw''⟩ := hw'
  subst hw''
  have hbu := below_regrown V dq osq
  obtain ⟨U, hU⟩ : ∃ U, U = Go.Sort.grow (redrawn V dq) osq := ⟨_, rfl⟩
  rw [← hU] at hbu ⊢
  have hkU := (hbu.block _ (heap_lt hk4)).trans hk4
  have hsU := (hbu.block _ (heap_lt hs4)).trans hs4
  have HBU : Hid (Below w.heap.size w U) := hB4.trans (hbu.mono hB4.size)
  clear hU CS k0 k1 k2 k3 s0 s1 k0' k1' k2' k3' s0' s1' hk4 hs4 hB4 hbu V
  have k0 : U.cell? ⟨g1, 0, none⟩ = some (.string kd) := by simp [World.cell?, hkU]
  have k1 : U.cell? ⟨g1, 1, none⟩ = some (.string ks) := by simp [World.cell?, hkU]
  have k2 : U.cell? ⟨g1, 2, none⟩ = some (.int .i64 x) := by simp [World.cell?, hkU]
  have k3 : U.cell? ⟨g1, 3, none⟩ = some (.int .i64 y) := by simp [World.cell?, hkU]
  have s0 : U.cell? ⟨g3, 0, none⟩ = some (.int .i64 a) := by simp [World.cell?, hsU]
  have s1 : U.cell? ⟨g3, 1, none⟩ = some (.int .i64 b) := by simp [World.cell?, hsU]
  by_cases ht0 : t.size = 0
  · have e0 : ((t.size : Int) == 0) = true := by rw [ht0]; rfl
    clear ht0
    go_wp2
    go_ret
    exact ⟨rfl, HBU.out⟩
  · have e0 : ((t.size : Int) == 0) = false := beq_eq_false_iff_ne.2 (by omega)
    have h0 := specSumAny kd ks ⟨#[]⟩ x y U (by show 0 ≤ 200000; omega)
    cases hk : keyOk x y
    · have z0 : a = 0 := by rw [← HA.out, sumN, if_pos hk]
      have z1 : b = 0 := by rw [← HBB.out, sumN, if_pos hk]
      subst z0 z1
      rw [sumN, if_pos hk] at h0
      go_wp2_with fail
      refine h0.mono ?_
      rintro e w4 ⟨rfl, hb4⟩
      have hB4 := HBU.out.trans (hb4.mono HBU.out.size)
      go_wp2
      go_ret
      exact ⟨rfl, hB4⟩
    · rw [sumN, if_neg (by rw [hk]; simp)] at h0
      have hka := (keyOk_iff x y).1 hk
      have hA1 : a = Ps.sm x.toNat 1 t.data.toList := by rw [← HA.out, sumN, if_neg (by rw [hk]; simp)]
      have hB1' : b = Ps.sm y.toNat 1 t.data.toList := by rw [← HBB.out, sumN, if_neg (by rw [hk]; simp)]
      have Hka : Hid (1 ≤ x ∧ x < 2147483647 ∧ 1 ≤ y ∧ y < 2147483647) := hka
      have HA1 : Hid (a = Ps.sm x.toNat 1 t.data.toList) := hA1
      have HB1 : Hid (b = Ps.sm y.toNat 1 t.data.toList) := hB1'
      have Hk : Hid (keyOk x y = true) := hk
      clear HA HBB hk hka hA1 hB1'
      by_cases hz : a = 0 ∧ b = 0
      · obtain ⟨z0, z1⟩ := hz
        subst z0 z1
        have h01 : (Ps.sm x.toNat 1 (⟨#[]⟩ : ByteArray).data.toList, Ps.sm y.toNat 1 (⟨#[]⟩ : ByteArray).data.toList) = (1, 1) := rfl
        rw [h01] at h0
        clear h01
        go_wp2_with fail
        refine h0.mono ?_
        rintro e w4 ⟨rfl, hb4⟩
        have hB4 := HBU.out.trans (hb4.mono HBU.out.size)
        have hk5 := (hb4.block _ (heap_lt hkU)).trans hkU
        have hs5 := (hb4.block _ (heap_lt hsU)).trans hsU
        clear k0 k1 k2 k3 s0 s1 hkU hsU HBU hb4 h0
        have hkU := hk5
        have hsU := hs5
        have HBU : Hid (Below w.heap.size w w4) := hB4
        clear hk5 hs5 hB4
        obtain ⟨a, ha0⟩ : ∃ a : Nat, a = 0 := ⟨_, rfl⟩
        obtain ⟨b, hb0⟩ : ∃ b : Nat, b = 0 := ⟨_, rfl⟩
        clear U
        obtain ⟨U, hU⟩ : ∃ U, U = w4 := ⟨_, rfl⟩
        subst hU
        obtain ⟨cap, W, hcv, hh, hbW⟩ := bytesOf (P := Try.prog) 9 22 Try.underlying9 Try.underlying22 Try.underlying5 t U
        have hkW := (hbW.block _ (heap_lt hkU)).trans hkU
        have hsW := (hbW.block _ (heap_lt hsU)).trans hsU
        have hgs := heap_lt hsU
        have HBW : Hid (Below w.heap.size w W) := HBU.out.trans (hbW.mono HBU.out.size)
        have HEW : Hid (Code W.heap.size W o2 d) := (HE.out.below HBW.out).mono HBW.out.size
        obtain ⟨gb, hgb⟩ : ∃ gb, U.heap.size = gb := ⟨_, rfl⟩
        rw [hgb] at hcv hh hgs
        have Hh : Hid (HoldsB gb t.data.toList W) := hh
        have hwg : w.heap.size ≤ gb := by rw [← hgb]; exact HBU.out.size
        clear hgb hbW hh hkU hsU
        have hL0 : Calls Try.prog 7 #[.slice o2 d.length cp2, .int .i64 0] W fun e w' => ∃ v : Nat, e = .returned (.int .i64 v) ∧ v < 256 ∧ W = w' := lawAt o2 d cp2 0 W HEW.out (by omega)
        have hL1 : Calls Try.prog 7 #[.slice o2 d.length cp2, .int .i64 1] W fun e w' => ∃ v : Nat, e = .returned (.int .i64 v) ∧ v < 256 ∧ W = w' := lawAt o2 d cp2 1 W HEW.out (by omega)
        go_wp2_with fail
        refine hL0.mono ?_
        rintro e w5 ⟨m0, rfl, hm0, rfl⟩
        go_wp2_with fail
        refine hL1.mono ?_
        rintro e w5 ⟨m1, rfl, hm1, rfl⟩
        obtain ⟨j, hj⟩ : ∃ j, (m0 * 256 + m1) % t.size = j := ⟨_, rfl⟩
        have hjl : j < t.size := by rw [← hj]; exact Nat.mod_lt _ (by omega)
        have hjI : ((m0 : Int) * 256 + (m1 : Int)) % (t.size : Int) = (j : Int) := by rw [← hj]; rfl
        have hne : ¬ (t.size : Int) = 0 := by omega
        clear hj hcv hL0 hL1
        go_wp2
        rw [hjI]
        clear hjI hne hm0 hm1
        have hjd : j < t.data.toList.length := by simpa using hjl
        obtain ⟨hcb, hfb⟩ := Hh.out j hjd
        have h8 : (t.data.toList[j]).toNat < 256 := UInt8.toNat_lt _
        have hjI2 : (j : Int) < (t.size : Int) := by omega
        have HU : ∀ q : UInt8, HoldsB gb (t.data.toList.set j q) ((({ W with drawn := W.drawn + 1 } : World)).setCell ⟨gb, j, none⟩ (.int .u8 (q.toNat : Int))) := fun q => HoldsB.set (w := { W with drawn := W.drawn + 1 }) Hh.out j hjd q
        refine wp_region_any (by kernel_rfl) ?_
        have hL2 : Calls Try.prog 7 #[.slice o2 d.length cp2, .int .i64 2] ({ W with drawn := W.drawn + 1 } : World) fun e w' => ∃ v : Nat, e = .returned (.int .i64 v) ∧ v < 256 ∧ ({ W with drawn := W.drawn + 1 } : World) = w' := lawAt o2 d cp2 2 _ HEW.out (by omega)
        have hcb2 : ({ W with drawn := W.drawn + 1 } : World).cell? ⟨gb, j, none⟩ = some (.int .u8 ((t.data.toList[j]).toNat : Int)) := hcb
        have hfb2 : ({ W with drawn := W.drawn + 1 } : World).frozen? ⟨gb, j, none⟩ = false := hfb
        have HB2 : Hid (Below w.heap.size w { W with drawn := W.drawn + 1 }) := HBW.out.drew
        have hkW2 : ({ W with drawn := W.drawn + 1 } : World).heap[g1]? = some (.cells #[.string kd, .string ks, .int .i64 x, .int .i64 y] 24 (0, 0)) := hkW
        have hsW2 : ({ W with drawn := W.drawn + 1 } : World).heap[g3]? = some (.cells #[.int .i64 (0 : Nat), .int .i64 (0 : Nat)] 28 (0, 0)) := hsW
        have HUU := (show Hid _ from HU)
        clear HU hkW hsW HBW hcb hfb Hh HEW
        generalize ({ W with drawn := W.drawn + 1 } : World) = X at hL2 hcb2 hfb2 HB2 hkW2 hsW2 HUU ⊢
        clear W
        generalize hbq : t.data.toList[j] = bq at *
        refine wpAny_take (i := 0) (v := .slice (some ⟨gb, 0, none⟩) t.size cap) rfl (by kernel_rfl) (by kernel_rfl) (by kernel_rfl) (fun _ _ _ h => h) (Or.inl ⟨by rfl, ?_⟩) ?_
        · intro w
          go_simp
        go_simp
        refine wpAny_take (i := 1) (v := .int .i64 (j : Int)) rfl (by kernel_rfl) (by kernel_rfl) (by kernel_rfl) (fun _ _ _ h => h) (Or.inl ⟨by rfl, ?_⟩) ?_
        · intro w
          go_simp
        go_simp
        refine wpAny_take (i := 2) (v := .slice (some ⟨gb, 0, none⟩) t.size cap) rfl (by kernel_rfl) (by kernel_rfl) (by kernel_rfl) (fun _ _ _ h => h) (Or.inl ⟨by rfl, ?_⟩) ?_
        · intro w
          go_simp
        go_simp
        refine wpAny_take (i := 3) (v := .int .i64 (j : Int)) rfl (by kernel_rfl) (by kernel_rfl) (by kernel_rfl) (fun _ _ _ h => h) (Or.inl ⟨by rfl, ?_⟩) ?_
        · intro w
          go_simp
        go_simp
        refine wpAny_take (i := 6) (v := .slice o2 d.length cp2) rfl (by kernel_rfl) (by kernel_rfl) (by kernel_rfl) (fun _ _ _ h => h) (Or.inl ⟨by rfl, ?_⟩) ?_
        · intro w
          go_simp
        go_simp
        refine wpAny_take (i := 4) (v := .pointer (some ⟨gb, j, none⟩)) rfl (by kernel_rfl) (by kernel_rfl) (by kernel_rfl) (fun _ _ _ h => h) (Or.inl ⟨by rfl, ?_⟩) ?_
        · intro w
          go_simp
        go_simp
        refine wpAny_ready (rs := [5, 7]) (by kernel_rfl) (by simp) ?_
        refine AllReady.cons rfl (fun K hK => ?_) (AllReady.cons rfl (fun K hK => ?_) AllReady.nil)
        · go_simp
          refine hK _ _ ?_
          clear hK K
          go_simp
          refine wpAny_ready (rs := [7]) (by kernel_rfl) (by simp) ?_
          refine AllReady.cons rfl (fun K hK => ?_) AllReady.nil
          go_simp
          refine hL2.mono ?_
          rintro e w6 ⟨m2, rfl, hm2, rfl⟩
          go_simp
          refine hK _ _ ?_
          clear hK K
          go_simp
          obtain ⟨q, hq⟩ : ∃ q, m2 % 255 = q := ⟨_, rfl⟩
          have hq255 : q < 255 := by rw [← hq]; exact Nat.mod_lt _ (by omega)
          have htm : Int.tmod (m2 : Int) 255 = (q : Int) := by rw [Int.tmod_eq_emod_of_nonneg (by omega), ← hq]; rfl
          obtain ⟨r, hr, hrc⟩ := xor8_byte bq q hq255
          have wq : IntKind.i64.wrap (1 + (q : Int)) = 1 + (q : Int) := wr64 _ (by omega) (by omega)
          have wq8 : IntKind.u8.wrap (1 + (q : Int)) = 1 + (q : Int) := wrap8 _ (by omega) (by omega)
          have Hrc : Hid (r ≠ t.data.toList[j]'hjd) := by rw [hbq]; exact hrc
          clear hq hm2 hrc
          refine wpAny_take (i := 8) (v := .int .i64 (q : Int)) rfl (by kernel_rfl) (by kernel_rfl) (by kernel_rfl) (fun _ _ _ h => h) (Or.inl ⟨by rfl, ?_⟩) ?_
          · intro w
            go_simp
          go_simp
          refine wpAny_take (i := 9) (v := .int .i64 (1 + (q : Int))) rfl (by kernel_rfl) (by kernel_rfl) (by kernel_rfl) (fun _ _ _ h => h) (Or.inl ⟨by rfl, ?_⟩) ?_
          · intro w
            go_simp
          go_simp
          refine wpAny_take (i := 10) (v := .int .u8 (1 + (q : Int))) rfl (by kernel_rfl) (by kernel_rfl) (by kernel_rfl) (fun _ _ _ h => h) (Or.inl ⟨by rfl, ?_⟩) ?_
          · intro w
            go_simp
          go_simp
          refine wpAny_take (i := 11) (v := .int .u8 (r.toNat : Int)) rfl (by kernel_rfl) (by kernel_rfl) (by kernel_rfl) (fun _ _ _ h => h) (Or.inl ⟨by rfl, ?_⟩) ?_
          · intro w
            go_simp
          go_simp
          refine wpAny_take (i := 12) (v := .pointer (some ⟨gb, j, none⟩)) rfl (by kernel_rfl) (by kernel_rfl) (by kernel_rfl) (fun _ _ _ h => h) (Or.inl ⟨by rfl, ?_⟩) ?_
          · intro w
            go_simp
          go_simp
          refine wpAny_ready (rs := [13]) (by kernel_rfl) (by simp) ?_
          refine AllReady.cons rfl (fun K hK => ?_) AllReady.nil
          go_simp
          refine hK _ _ ?_
          clear hK K
          go_simp
          refine wpAny_done (by kernel_rfl) ?_ _
          have HH := HUU.out r
          have hkY : (X.setCell ⟨gb, j, none⟩ (.int .u8 (r.toNat : Int))).heap[g1]? = some (.cells #[.string kd, .string ks, .int .i64 x, .int .i64 y] 24 (0, 0)) := by simp [World.setCell, Array.getElem?_modify, hkW2, show gb ≠ g1 by omega]
          have hsY : (X.setCell ⟨gb, j, none⟩ (.int .u8 (r.toNat : Int))).heap[g3]? = some (.cells #[.int .i64 (0 : Nat), .int .i64 (0 : Nat)] 28 (0, 0)) := by simp [World.setCell, Array.getElem?_modify, hsW2, show gb ≠ g3 by omega]
          have HBY : Hid (Below w.heap.size w (X.setCell ⟨gb, j, none⟩ (.int .u8 (r.toNat : Int)))) := HB2.out.setCell hwg _
          generalize X.setCell ⟨gb, j, none⟩ (.int .u8 (r.toNat : Int)) = Y at HH hkY hsY HBY ⊢
          have hbk := HH.back (P := Try.prog) (cap := cap) 22 9 Try.underlying22 Try.underlying5 Try.underlying9
          rw [List.length_set, Pl.len_list] at hbk
          have ht2 : (⟨(t.data.toList.set j r).toArray⟩ : ByteArray).size ≤ 900 := by
            show (t.data.toList.set j r).toArray.size ≤ 900
            rw [List.size_toArray, List.length_set, Pl.len_list]
            exact ht
          have hI2 := fun w => implSumAny kd ks ⟨(t.data.toList.set j r).toArray⟩ x y w (by omega) (by omega) (by omega)
          have n1 : (sumN ⟨(t.data.toList.set j r).toArray⟩ x y).1 ≠ 0 := by
            rw [sumN, if_neg (by rw [Hk.out]; simp), HA1.out]
            exact turn_ne x.toNat t.data.toList j hjd r Hrc.out (by have := Hka.out; omega) (by have := Hka.out; omega)
          have n2 : (sumN ⟨(t.data.toList.set j r).toArray⟩ x y).2 ≠ 0 := by
            rw [sumN, if_neg (by rw [Hk.out]; simp), HB1.out]
            exact turn_ne y.toNat t.data.toList j hjd r Hrc.out (by have := Hka.out; omega) (by have := Hka.out; omega)
          generalize (sumN ⟨(t.data.toList.set j r).toArray⟩ x y).1 = a2 at hI2 n1
          generalize (sumN ⟨(t.data.toList.set j r).toArray⟩ x y).2 = b2 at hI2 n2
          generalize (⟨(t.data.toList.set j r).toArray⟩ : ByteArray) = t2 at hI2 hbk ht2
          have m1' : ((a2 : Int) != 0) = true := by simp; omega
          have m2' : ((b2 : Int) != 0) = true := by simp; omega
          have k0 : Y.cell? ⟨g1, 0, none⟩ = some (.string kd) := by simp [World.cell?, hkY]
          have k1 : Y.cell? ⟨g1, 1, none⟩ = some (.string ks) := by simp [World.cell?, hkY]
          have k2 : Y.cell? ⟨g1, 2, none⟩ = some (.int .i64 x) := by simp [World.cell?, hkY]
          have k3 : Y.cell? ⟨g1, 3, none⟩ = some (.int .i64 y) := by simp [World.cell?, hkY]
          clear HUU HH hkW2 hsW2 HB2 hcb2 hfb2 hL2 hr htm wq wq8 n1 n2 hbq hkY
          go_wp2_with fail
          refine (hI2 _).mono ?_
          rintro e w7 ⟨rfl, hb7⟩
          have hs7 := (hb7.block _ (heap_lt hsY)).trans hsY
          have hB7 := HBY.out.trans (hb7.mono HBY.out.size)
          have hB8 : Below w.heap.size w (w7.alloc (.cells #[.int .i64 a2, .int .i64 b2] 28)) := hB7.alloc hB7.size _
          have hs8 := (heap_alloc_old w7 (.cells #[.int .i64 a2, .int .i64 b2] 28) g3 (heap_lt hs7)).trans hs7
          have s0 : (w7.alloc (.cells #[.int .i64 a2, .int .i64 b2] 28)).cell? ⟨g3, 0, none⟩ = some (.int .i64 (0 : Nat)) := by simp [World.cell?, hs8]
          have s1 : (w7.alloc (.cells #[.int .i64 a2, .int .i64 b2] 28)).cell? ⟨g3, 1, none⟩ = some (.int .i64 (0 : Nat)) := by simp [World.cell?, hs8]
          clear hI2 hb7 hsY HBY hs7 hs8 hB7 k0 k1 k2 k3 hbk
          go_wp2
          go_ret
          exact ⟨rfl, hB8⟩
        · go_simp
          refine hL2.mono ?_
          rintro e w6 ⟨m2, rfl, hm2, rfl⟩
          go_simp
          refine hK _ _ ?_
          clear hK K
          go_simp
          obtain ⟨q, hq⟩ : ∃ q, m2 % 255 = q := ⟨_, rfl⟩
          have hq255 : q < 255 := by rw [← hq]; exact Nat.mod_lt _ (by omega)
          have htm : Int.tmod (m2 : Int) 255 = (q : Int) := by rw [Int.tmod_eq_emod_of_nonneg (by omega), ← hq]; rfl
          obtain ⟨r, hr, hrc⟩ := xor8_byte bq q hq255
          have wq : IntKind.i64.wrap (1 + (q : Int)) = 1 + (q : Int) := wr64 _ (by omega) (by omega)
          have wq8 : IntKind.u8.wrap (1 + (q : Int)) = 1 + (q : Int) := wrap8 _ (by omega) (by omega)
          have Hrc : Hid (r ≠ t.data.toList[j]'hjd) := by rw [hbq]; exact hrc
          clear hq hm2 hrc
          refine wpAny_take (i := 8) (v := .int .i64 (q : Int)) rfl (by kernel_rfl) (by kernel_rfl) (by kernel_rfl) (fun _ _ _ h => h) (Or.inl ⟨by rfl, ?_⟩) ?_
          · intro w
            go_simp
          go_simp
          refine wpAny_take (i := 9) (v := .int .i64 (1 + (q : Int))) rfl (by kernel_rfl) (by kernel_rfl) (by kernel_rfl) (fun _ _ _ h => h) (Or.inl ⟨by rfl, ?_⟩) ?_
          · intro w
            go_simp
          go_simp
          refine wpAny_take (i := 10) (v := .int .u8 (1 + (q : Int))) rfl (by kernel_rfl) (by kernel_rfl) (by kernel_rfl) (fun _ _ _ h => h) (Or.inl ⟨by rfl, ?_⟩) ?_
          · intro w
            go_simp
          go_simp
          refine wpAny_ready (rs := [5]) (by kernel_rfl) (by simp) ?_
          refine AllReady.cons rfl (fun K hK => ?_) AllReady.nil
          go_simp
          refine hK _ _ ?_
          clear hK K
          go_simp
          refine wpAny_take (i := 11) (v := .int .u8 (r.toNat : Int)) rfl (by kernel_rfl) (by kernel_rfl) (by kernel_rfl) (fun _ _ _ h => h) (Or.inl ⟨by rfl, ?_⟩) ?_
          · intro w
            go_simp
          go_simp
          refine wpAny_take (i := 12) (v := .pointer (some ⟨gb, j, none⟩)) rfl (by kernel_rfl) (by kernel_rfl) (by kernel_rfl) (fun _ _ _ h => h) (Or.inl ⟨by rfl, ?_⟩) ?_
          · intro w
            go_simp
          go_simp
          refine wpAny_ready (rs := [13]) (by kernel_rfl) (by simp) ?_
          refine AllReady.cons rfl (fun K hK => ?_) AllReady.nil
          go_simp
          refine hK _ _ ?_
          clear hK K
          go_simp
          refine wpAny_done (by kernel_rfl) ?_ _
          have HH := HUU.out r
          have hkY : (X.setCell ⟨gb, j, none⟩ (.int .u8 (r.toNat : Int))).heap[g1]? = some (.cells #[.string kd, .string ks, .int .i64 x, .int .i64 y] 24 (0, 0)) := by simp [World.setCell, Array.getElem?_modify, hkW2, show gb ≠ g1 by omega]
          have hsY : (X.setCell ⟨gb, j, none⟩ (.int .u8 (r.toNat : Int))).heap[g3]? = some (.cells #[.int .i64 (0 : Nat), .int .i64 (0 : Nat)] 28 (0, 0)) := by simp [World.setCell, Array.getElem?_modify, hsW2, show gb ≠ g3 by omega]
          have HBY : Hid (Below w.heap.size w (X.setCell ⟨gb, j, none⟩ (.int .u8 (r.toNat : Int)))) := HB2.out.setCell hwg _
          generalize X.setCell ⟨gb, j, none⟩ (.int .u8 (r.toNat : Int)) = Y at HH hkY hsY HBY ⊢
          have hbk := HH.back (P := Try.prog) (cap := cap) 22 9 Try.underlying22 Try.underlying5 Try.underlying9
          rw [List.length_set, Pl.len_list] at hbk
          have ht2 : (⟨(t.data.toList.set j r).toArray⟩ : ByteArray).size ≤ 900 := by
            show (t.data.toList.set j r).toArray.size ≤ 900
            rw [List.size_toArray, List.length_set, Pl.len_list]
            exact ht
          have hI2 := fun w => implSumAny kd ks ⟨(t.data.toList.set j r).toArray⟩ x y w (by omega) (by omega) (by omega)
          have n1 : (sumN ⟨(t.data.toList.set j r).toArray⟩ x y).1 ≠ 0 := by
            rw [sumN, if_neg (by rw [Hk.out]; simp), HA1.out]
            exact turn_ne x.toNat t.data.toList j hjd r Hrc.out (by have := Hka.out; omega) (by have := Hka.out; omega)
          have n2 : (sumN ⟨(t.data.toList.set j r).toArray⟩ x y).2 ≠ 0 := by
            rw [sumN, if_neg (by rw [Hk.out]; simp), HB1.out]
            exact turn_ne y.toNat t.data.toList j hjd r Hrc.out (by have := Hka.out; omega) (by have := Hka.out; omega)
          generalize (sumN ⟨(t.data.toList.set j r).toArray⟩ x y).1 = a2 at hI2 n1
          generalize (sumN ⟨(t.data.toList.set j r).toArray⟩ x y).2 = b2 at hI2 n2
          generalize (⟨(t.data.toList.set j r).toArray⟩ : ByteArray) = t2 at hI2 hbk ht2
          have m1' : ((a2 : Int) != 0) = true := by simp; omega
          have m2' : ((b2 : Int) != 0) = true := by simp; omega
          have k0 : Y.cell? ⟨g1, 0, none⟩ = some (.string kd) := by simp [World.cell?, hkY]
          have k1 : Y.cell? ⟨g1, 1, none⟩ = some (.string ks) := by simp [World.cell?, hkY]
          have k2 : Y.cell? ⟨g1, 2, none⟩ = some (.int .i64 x) := by simp [World.cell?, hkY]
          have k3 : Y.cell? ⟨g1, 3, none⟩ = some (.int .i64 y) := by simp [World.cell?, hkY]
          clear HUU HH hkW2 hsW2 HB2 hcb2 hfb2 hL2 hr htm wq wq8 n1 n2 hbq hkY
          go_wp2_with fail
          refine (hI2 _).mono ?_
          rintro e w7 ⟨rfl, hb7⟩
          have hs7 := (hb7.block _ (heap_lt hsY)).trans hsY
          have hB7 := HBY.out.trans (hb7.mono HBY.out.size)
          have hB8 : Below w.heap.size w (w7.alloc (.cells #[.int .i64 a2, .int .i64 b2] 28)) := hB7.alloc hB7.size _
          have hs8 := (heap_alloc_old w7 (.cells #[.int .i64 a2, .int .i64 b2] 28) g3 (heap_lt hs7)).trans hs7
          have s0 : (w7.alloc (.cells #[.int .i64 a2, .int .i64 b2] 28)).cell? ⟨g3, 0, none⟩ = some (.int .i64 (0 : Nat)) := by simp [World.cell?, hs8]
          have s1 : (w7.alloc (.cells #[.int .i64 a2, .int .i64 b2] 28)).cell? ⟨g3, 1, none⟩ = some (.int .i64 (0 : Nat)) := by simp [World.cell?, hs8]
          clear hI2 hb7 hsY HBY hs7 hs8 hB7 k0 k1 k2 k3 hbk
          go_wp2
          go_ret
          exact ⟨rfl, hB8⟩
      · have hz2 : (((a : Int) == 0) && ((b : Int) == 0)) = false := by
          simp only [Bool.and_eq_false_iff, beq_eq_false_iff_ne]
          omega
        clear h0 k0 k1 k2 k3
        cases ea : ((a : Int) == 0)
        · skip
          obtain ⟨cap, W, hcv, hh, hbW⟩ := bytesOf (P := Try.prog) 9 22 Try.underlying9 Try.underlying22 Try.underlying5 t U
          have hkW := (hbW.block _ (heap_lt hkU)).trans hkU
          have hsW := (hbW.block _ (heap_lt hsU)).trans hsU
          have hgs := heap_lt hsU
          have HBW : Hid (Below w.heap.size w W) := HBU.out.trans (hbW.mono HBU.out.size)
          have HEW : Hid (Code W.heap.size W o2 d) := (HE.out.below HBW.out).mono HBW.out.size
          obtain ⟨gb, hgb⟩ : ∃ gb, U.heap.size = gb := ⟨_, rfl⟩
          rw [hgb] at hcv hh hgs
          have Hh : Hid (HoldsB gb t.data.toList W) := hh
          have hwg : w.heap.size ≤ gb := by rw [← hgb]; exact HBU.out.size
          clear hgb hbW hh hkU hsU
          have hL0 : Calls Try.prog 7 #[.slice o2 d.length cp2, .int .i64 0] W fun e w' => ∃ v : Nat, e = .returned (.int .i64 v) ∧ v < 256 ∧ W = w' := lawAt o2 d cp2 0 W HEW.out (by omega)
          have hL1 : Calls Try.prog 7 #[.slice o2 d.length cp2, .int .i64 1] W fun e w' => ∃ v : Nat, e = .returned (.int .i64 v) ∧ v < 256 ∧ W = w' := lawAt o2 d cp2 1 W HEW.out (by omega)
          go_wp2_with fail
          refine hL0.mono ?_
          rintro e w5 ⟨m0, rfl, hm0, rfl⟩
          go_wp2_with fail
          refine hL1.mono ?_
          rintro e w5 ⟨m1, rfl, hm1, rfl⟩
          obtain ⟨j, hj⟩ : ∃ j, (m0 * 256 + m1) % t.size = j := ⟨_, rfl⟩
          have hjl : j < t.size := by rw [← hj]; exact Nat.mod_lt _ (by omega)
          have hjI : ((m0 : Int) * 256 + (m1 : Int)) % (t.size : Int) = (j : Int) := by rw [← hj]; rfl
          have hne : ¬ (t.size : Int) = 0 := by omega
          clear hj hcv hL0 hL1
          go_wp2
          rw [hjI]
          clear hjI hne hm0 hm1
          have hjd : j < t.data.toList.length := by simpa using hjl
          obtain ⟨hcb, hfb⟩ := Hh.out j hjd
          have h8 : (t.data.toList[j]).toNat < 256 := UInt8.toNat_lt _
          have hjI2 : (j : Int) < (t.size : Int) := by omega
          have HU : ∀ q : UInt8, HoldsB gb (t.data.toList.set j q) ((({ W with drawn := W.drawn + 1 } : World)).setCell ⟨gb, j, none⟩ (.int .u8 (q.toNat : Int))) := fun q => HoldsB.set (w := { W with drawn := W.drawn + 1 }) Hh.out j hjd q
          refine wp_region_any (by kernel_rfl) ?_
          have hL2 : Calls Try.prog 7 #[.slice o2 d.length cp2, .int .i64 2] ({ W with drawn := W.drawn + 1 } : World) fun e w' => ∃ v : Nat, e = .returned (.int .i64 v) ∧ v < 256 ∧ ({ W with drawn := W.drawn + 1 } : World) = w' := lawAt o2 d cp2 2 _ HEW.out (by omega)
          have hcb2 : ({ W with drawn := W.drawn + 1 } : World).cell? ⟨gb, j, none⟩ = some (.int .u8 ((t.data.toList[j]).toNat : Int)) := hcb
          have hfb2 : ({ W with drawn := W.drawn + 1 } : World).frozen? ⟨gb, j, none⟩ = false := hfb
          have HB2 : Hid (Below w.heap.size w { W with drawn := W.drawn + 1 }) := HBW.out.drew
          have hkW2 : ({ W with drawn := W.drawn + 1 } : World).heap[g1]? = some (.cells #[.string kd, .string ks, .int .i64 x, .int .i64 y] 24 (0, 0)) := hkW
          have hsW2 : ({ W with drawn := W.drawn + 1 } : World).heap[g3]? = some (.cells #[.int .i64 (a : Nat), .int .i64 (b : Nat)] 28 (0, 0)) := hsW
          have HUU := (show Hid _ from HU)
          clear HU hkW hsW HBW hcb hfb Hh HEW
          generalize ({ W with drawn := W.drawn + 1 } : World) = X at hL2 hcb2 hfb2 HB2 hkW2 hsW2 HUU ⊢
          clear W
          generalize hbq : t.data.toList[j] = bq at *
          refine wpAny_take (i := 0) (v := .slice (some ⟨gb, 0, none⟩) t.size cap) rfl (by kernel_rfl) (by kernel_rfl) (by kernel_rfl) (fun _ _ _ h => h) (Or.inl ⟨by rfl, ?_⟩) ?_
          · intro w
            go_simp
          go_simp
          refine wpAny_take (i := 1) (v := .int .i64 (j : Int)) rfl (by kernel_rfl) (by kernel_rfl) (by kernel_rfl) (fun _ _ _ h => h) (Or.inl ⟨by rfl, ?_⟩) ?_
          · intro w
            go_simp
          go_simp
          refine wpAny_take (i := 2) (v := .slice (some ⟨gb, 0, none⟩) t.size cap) rfl (by kernel_rfl) (by kernel_rfl) (by kernel_rfl) (fun _ _ _ h => h) (Or.inl ⟨by rfl, ?_⟩) ?_
          · intro w
            go_simp
          go_simp
          refine wpAny_take (i := 3) (v := .int .i64 (j : Int)) rfl (by kernel_rfl) (by kernel_rfl) (by kernel_rfl) (fun _ _ _ h => h) (Or.inl ⟨by rfl, ?_⟩) ?_
          · intro w
            go_simp
          go_simp
          refine wpAny_take (i := 6) (v := .slice o2 d.length cp2) rfl (by kernel_rfl) (by kernel_rfl) (by kernel_rfl) (fun _ _ _ h => h) (Or.inl ⟨by rfl, ?_⟩) ?_
          · intro w
            go_simp
          go_simp
          refine wpAny_take (i := 4) (v := .pointer (some ⟨gb, j, none⟩)) rfl (by kernel_rfl) (by kernel_rfl) (by kernel_rfl) (fun _ _ _ h => h) (Or.inl ⟨by rfl, ?_⟩) ?_
          · intro w
            go_simp
          go_simp
          refine wpAny_ready (rs := [5, 7]) (by kernel_rfl) (by simp) ?_
          refine AllReady.cons rfl (fun K hK => ?_) (AllReady.cons rfl (fun K hK => ?_) AllReady.nil)
          · go_simp
            refine hK _ _ ?_
            clear hK K
            go_simp
            refine wpAny_ready (rs := [7]) (by kernel_rfl) (by simp) ?_
            refine AllReady.cons rfl (fun K hK => ?_) AllReady.nil
            go_simp
            refine hL2.mono ?_
            rintro e w6 ⟨m2, rfl, hm2, rfl⟩
            go_simp
            refine hK _ _ ?_
            clear hK K
            go_simp
            obtain ⟨q, hq⟩ : ∃ q, m2 % 255 = q := ⟨_, rfl⟩
            have hq255 : q < 255 := by rw [← hq]; exact Nat.mod_lt _ (by omega)
            have htm : Int.tmod (m2 : Int) 255 = (q : Int) := by rw [Int.tmod_eq_emod_of_nonneg (by omega), ← hq]; rfl
            obtain ⟨r, hr, hrc⟩ := xor8_byte bq q hq255
            have wq : IntKind.i64.wrap (1 + (q : Int)) = 1 + (q : Int) := wr64 _ (by omega) (by omega)
            have wq8 : IntKind.u8.wrap (1 + (q : Int)) = 1 + (q : Int) := wrap8 _ (by omega) (by omega)
            have Hrc : Hid (r ≠ t.data.toList[j]'hjd) := by rw [hbq]; exact hrc
            clear hq hm2 hrc
            refine wpAny_take (i := 8) (v := .int .i64 (q : Int)) rfl (by kernel_rfl) (by kernel_rfl) (by kernel_rfl) (fun _ _ _ h => h) (Or.inl ⟨by rfl, ?_⟩) ?_
            · intro w
              go_simp
            go_simp
            refine wpAny_take (i := 9) (v := .int .i64 (1 + (q : Int))) rfl (by kernel_rfl) (by kernel_rfl) (by kernel_rfl) (fun _ _ _ h => h) (Or.inl ⟨by rfl, ?_⟩) ?_
            · intro w
              go_simp
            go_simp
            refine wpAny_take (i := 10) (v := .int .u8 (1 + (q : Int))) rfl (by kernel_rfl) (by kernel_rfl) (by kernel_rfl) (fun _ _ _ h => h) (Or.inl ⟨by rfl, ?_⟩) ?_
            · intro w
              go_simp
            go_simp
            refine wpAny_take (i := 11) (v := .int .u8 (r.toNat : Int)) rfl (by kernel_rfl) (by kernel_rfl) (by kernel_rfl) (fun _ _ _ h => h) (Or.inl ⟨by rfl, ?_⟩) ?_
            · intro w
              go_simp
            go_simp
            refine wpAny_take (i := 12) (v := .pointer (some ⟨gb, j, none⟩)) rfl (by kernel_rfl) (by kernel_rfl) (by kernel_rfl) (fun _ _ _ h => h) (Or.inl ⟨by rfl, ?_⟩) ?_
            · intro w
              go_simp
            go_simp
            refine wpAny_ready (rs := [13]) (by kernel_rfl) (by simp) ?_
            refine AllReady.cons rfl (fun K hK => ?_) AllReady.nil
            go_simp
            refine hK _ _ ?_
            clear hK K
            go_simp
            refine wpAny_done (by kernel_rfl) ?_ _
            have HH := HUU.out r
            have hkY : (X.setCell ⟨gb, j, none⟩ (.int .u8 (r.toNat : Int))).heap[g1]? = some (.cells #[.string kd, .string ks, .int .i64 x, .int .i64 y] 24 (0, 0)) := by simp [World.setCell, Array.getElem?_modify, hkW2, show gb ≠ g1 by omega]
            have hsY : (X.setCell ⟨gb, j, none⟩ (.int .u8 (r.toNat : Int))).heap[g3]? = some (.cells #[.int .i64 (a : Nat), .int .i64 (b : Nat)] 28 (0, 0)) := by simp [World.setCell, Array.getElem?_modify, hsW2, show gb ≠ g3 by omega]
            have HBY : Hid (Below w.heap.size w (X.setCell ⟨gb, j, none⟩ (.int .u8 (r.toNat : Int)))) := HB2.out.setCell hwg _
            generalize X.setCell ⟨gb, j, none⟩ (.int .u8 (r.toNat : Int)) = Y at HH hkY hsY HBY ⊢
            have hbk := HH.back (P := Try.prog) (cap := cap) 22 9 Try.underlying22 Try.underlying5 Try.underlying9
            rw [List.length_set, Pl.len_list] at hbk
            have ht2 : (⟨(t.data.toList.set j r).toArray⟩ : ByteArray).size ≤ 900 := by
              show (t.data.toList.set j r).toArray.size ≤ 900
              rw [List.size_toArray, List.length_set, Pl.len_list]
              exact ht
            have hI2 := fun w => implSumAny kd ks ⟨(t.data.toList.set j r).toArray⟩ x y w (by omega) (by omega) (by omega)
            have n1 : (sumN ⟨(t.data.toList.set j r).toArray⟩ x y).1 ≠ a := by
              rw [sumN, if_neg (by rw [Hk.out]; simp), HA1.out]
              exact turn_ne x.toNat t.data.toList j hjd r Hrc.out (by have := Hka.out; omega) (by have := Hka.out; omega)
            have n2 : (sumN ⟨(t.data.toList.set j r).toArray⟩ x y).2 ≠ b := by
              rw [sumN, if_neg (by rw [Hk.out]; simp), HB1.out]
              exact turn_ne y.toNat t.data.toList j hjd r Hrc.out (by have := Hka.out; omega) (by have := Hka.out; omega)
            generalize (sumN ⟨(t.data.toList.set j r).toArray⟩ x y).1 = a2 at hI2 n1
            generalize (sumN ⟨(t.data.toList.set j r).toArray⟩ x y).2 = b2 at hI2 n2
            generalize (⟨(t.data.toList.set j r).toArray⟩ : ByteArray) = t2 at hI2 hbk ht2
            have m1' : ((a2 : Int) != ((a : Nat) : Int)) = true := by simp; omega
            have m2' : ((b2 : Int) != ((b : Nat) : Int)) = true := by simp; omega
            have k0 : Y.cell? ⟨g1, 0, none⟩ = some (.string kd) := by simp [World.cell?, hkY]
            have k1 : Y.cell? ⟨g1, 1, none⟩ = some (.string ks) := by simp [World.cell?, hkY]
            have k2 : Y.cell? ⟨g1, 2, none⟩ = some (.int .i64 x) := by simp [World.cell?, hkY]
            have k3 : Y.cell? ⟨g1, 3, none⟩ = some (.int .i64 y) := by simp [World.cell?, hkY]
            clear HUU HH hkW2 hsW2 HB2 hcb2 hfb2 hL2 hr htm wq wq8 n1 n2 hbq hkY
            go_wp2_with fail
            refine (hI2 _).mono ?_
            rintro e w7 ⟨rfl, hb7⟩
            have hs7 := (hb7.block _ (heap_lt hsY)).trans hsY
            have hB7 := HBY.out.trans (hb7.mono HBY.out.size)
            have hB8 : Below w.heap.size w (w7.alloc (.cells #[.int .i64 a2, .int .i64 b2] 28)) := hB7.alloc hB7.size _
            have hs8 := (heap_alloc_old w7 (.cells #[.int .i64 a2, .int .i64 b2] 28) g3 (heap_lt hs7)).trans hs7
            have s0 : (w7.alloc (.cells #[.int .i64 a2, .int .i64 b2] 28)).cell? ⟨g3, 0, none⟩ = some (.int .i64 (a : Nat)) := by simp [World.cell?, hs8]
            have s1 : (w7.alloc (.cells #[.int .i64 a2, .int .i64 b2] 28)).cell? ⟨g3, 1, none⟩ = some (.int .i64 (b : Nat)) := by simp [World.cell?, hs8]
            clear hI2 hb7 hsY HBY hs7 hs8 hB7 k0 k1 k2 k3 hbk
            go_wp2
            go_ret
            exact ⟨rfl, hB8⟩
          · go_simp
            refine hL2.mono ?_
            rintro e w6 ⟨m2, rfl, hm2, rfl⟩
            go_simp
            refine hK _ _ ?_
            clear hK K
            go_simp
            obtain ⟨q, hq⟩ : ∃ q, m2 % 255 = q := ⟨_, rfl⟩
            have hq255 : q < 255 := by rw [← hq]; exact Nat.mod_lt _ (by omega)
            have htm : Int.tmod (m2 : Int) 255 = (q : Int) := by rw [Int.tmod_eq_emod_of_nonneg (by omega), ← hq]; rfl
            obtain ⟨r, hr, hrc⟩ := xor8_byte bq q hq255
            have wq : IntKind.i64.wrap (1 + (q : Int)) = 1 + (q : Int) := wr64 _ (by omega) (by omega)
            have wq8 : IntKind.u8.wrap (1 + (q : Int)) = 1 + (q : Int) := wrap8 _ (by omega) (by omega)
            have Hrc : Hid (r ≠ t.data.toList[j]'hjd) := by rw [hbq]; exact hrc
            clear hq hm2 hrc
            refine wpAny_take (i := 8) (v := .int .i64 (q : Int)) rfl (by kernel_rfl) (by kernel_rfl) (by kernel_rfl) (fun _ _ _ h => h) (Or.inl ⟨by rfl, ?_⟩) ?_
            · intro w
              go_simp
            go_simp
            refine wpAny_take (i := 9) (v := .int .i64 (1 + (q : Int))) rfl (by kernel_rfl) (by kernel_rfl) (by kernel_rfl) (fun _ _ _ h => h) (Or.inl ⟨by rfl, ?_⟩) ?_
            · intro w
              go_simp
            go_simp
            refine wpAny_take (i := 10) (v := .int .u8 (1 + (q : Int))) rfl (by kernel_rfl) (by kernel_rfl) (by kernel_rfl) (fun _ _ _ h => h) (Or.inl ⟨by rfl, ?_⟩) ?_
            · intro w
              go_simp
            go_simp
            refine wpAny_ready (rs := [5]) (by kernel_rfl) (by simp) ?_
            refine AllReady.cons rfl (fun K hK => ?_) AllReady.nil
            go_simp
            refine hK _ _ ?_
            clear hK K
            go_simp
            refine wpAny_take (i := 11) (v := .int .u8 (r.toNat : Int)) rfl (by kernel_rfl) (by kernel_rfl) (by kernel_rfl) (fun _ _ _ h => h) (Or.inl ⟨by rfl, ?_⟩) ?_
            · intro w
              go_simp
            go_simp
            refine wpAny_take (i := 12) (v := .pointer (some ⟨gb, j, none⟩)) rfl (by kernel_rfl) (by kernel_rfl) (by kernel_rfl) (fun _ _ _ h => h) (Or.inl ⟨by rfl, ?_⟩) ?_
            · intro w
              go_simp
            go_simp
            refine wpAny_ready (rs := [13]) (by kernel_rfl) (by simp) ?_
            refine AllReady.cons rfl (fun K hK => ?_) AllReady.nil
            go_simp
            refine hK _ _ ?_
            clear hK K
            go_simp
            refine wpAny_done (by kernel_rfl) ?_ _
            have HH := HUU.out r
            have hkY : (X.setCell ⟨gb, j, none⟩ (.int .u8 (r.toNat : Int))).heap[g1]? = some (.cells #[.string kd, .string ks, .int .i64 x, .int .i64 y] 24 (0, 0)) := by simp [World.setCell, Array.getElem?_modify, hkW2, show gb ≠ g1 by omega]
            have hsY : (X.setCell ⟨gb, j, none⟩ (.int .u8 (r.toNat : Int))).heap[g3]? = some (.cells #[.int .i64 (a : Nat), .int .i64 (b : Nat)] 28 (0, 0)) := by simp [World.setCell, Array.getElem?_modify, hsW2, show gb ≠ g3 by omega]
            have HBY : Hid (Below w.heap.size w (X.setCell ⟨gb, j, none⟩ (.int .u8 (r.toNat : Int)))) := HB2.out.setCell hwg _
            generalize X.setCell ⟨gb, j, none⟩ (.int .u8 (r.toNat : Int)) = Y at HH hkY hsY HBY ⊢
            have hbk := HH.back (P := Try.prog) (cap := cap) 22 9 Try.underlying22 Try.underlying5 Try.underlying9
            rw [List.length_set, Pl.len_list] at hbk
            have ht2 : (⟨(t.data.toList.set j r).toArray⟩ : ByteArray).size ≤ 900 := by
              show (t.data.toList.set j r).toArray.size ≤ 900
              rw [List.size_toArray, List.length_set, Pl.len_list]
              exact ht
            have hI2 := fun w => implSumAny kd ks ⟨(t.data.toList.set j r).toArray⟩ x y w (by omega) (by omega) (by omega)
            have n1 : (sumN ⟨(t.data.toList.set j r).toArray⟩ x y).1 ≠ a := by
              rw [sumN, if_neg (by rw [Hk.out]; simp), HA1.out]
              exact turn_ne x.toNat t.data.toList j hjd r Hrc.out (by have := Hka.out; omega) (by have := Hka.out; omega)
            have n2 : (sumN ⟨(t.data.toList.set j r).toArray⟩ x y).2 ≠ b := by
              rw [sumN, if_neg (by rw [Hk.out]; simp), HB1.out]
              exact turn_ne y.toNat t.data.toList j hjd r Hrc.out (by have := Hka.out; omega) (by have := Hka.out; omega)
            generalize (sumN ⟨(t.data.toList.set j r).toArray⟩ x y).1 = a2 at hI2 n1
            generalize (sumN ⟨(t.data.toList.set j r).toArray⟩ x y).2 = b2 at hI2 n2
            generalize (⟨(t.data.toList.set j r).toArray⟩ : ByteArray) = t2 at hI2 hbk ht2
            have m1' : ((a2 : Int) != ((a : Nat) : Int)) = true := by simp; omega
            have m2' : ((b2 : Int) != ((b : Nat) : Int)) = true := by simp; omega
            have k0 : Y.cell? ⟨g1, 0, none⟩ = some (.string kd) := by simp [World.cell?, hkY]
            have k1 : Y.cell? ⟨g1, 1, none⟩ = some (.string ks) := by simp [World.cell?, hkY]
            have k2 : Y.cell? ⟨g1, 2, none⟩ = some (.int .i64 x) := by simp [World.cell?, hkY]
            have k3 : Y.cell? ⟨g1, 3, none⟩ = some (.int .i64 y) := by simp [World.cell?, hkY]
            clear HUU HH hkW2 hsW2 HB2 hcb2 hfb2 hL2 hr htm wq wq8 n1 n2 hbq hkY
            go_wp2_with fail
            refine (hI2 _).mono ?_
            rintro e w7 ⟨rfl, hb7⟩
            have hs7 := (hb7.block _ (heap_lt hsY)).trans hsY
            have hB7 := HBY.out.trans (hb7.mono HBY.out.size)
            have hB8 : Below w.heap.size w (w7.alloc (.cells #[.int .i64 a2, .int .i64 b2] 28)) := hB7.alloc hB7.size _
            have hs8 := (heap_alloc_old w7 (.cells #[.int .i64 a2, .int .i64 b2] 28) g3 (heap_lt hs7)).trans hs7
            have s0 : (w7.alloc (.cells #[.int .i64 a2, .int .i64 b2] 28)).cell? ⟨g3, 0, none⟩ = some (.int .i64 (a : Nat)) := by simp [World.cell?, hs8]
            have s1 : (w7.alloc (.cells #[.int .i64 a2, .int .i64 b2] 28)).cell? ⟨g3, 1, none⟩ = some (.int .i64 (b : Nat)) := by simp [World.cell?, hs8]
            clear hI2 hb7 hsY HBY hs7 hs8 hB7 k0 k1 k2 k3 hbk
            go_wp2
            go_ret
            exact ⟨rfl, hB8⟩
        · have eb : ((b : Int) == 0) = false := by rw [ea, Bool.true_and] at hz2; exact hz2
          obtain ⟨cap, W, hcv, hh, hbW⟩ := bytesOf (P := Try.prog) 9 22 Try.underlying9 Try.underlying22 Try.underlying5 t U
          have hkW := (hbW.block _ (heap_lt hkU)).trans hkU
          have hsW := (hbW.block _ (heap_lt hsU)).trans hsU
          have hgs := heap_lt hsU
          have HBW : Hid (Below w.heap.size w W) := HBU.out.trans (hbW.mono HBU.out.size)
          have HEW : Hid (Code W.heap.size W o2 d) := (HE.out.below HBW.out).mono HBW.out.size
          obtain ⟨gb, hgb⟩ : ∃ gb, U.heap.size = gb := ⟨_, rfl⟩
          rw [hgb] at hcv hh hgs
          have Hh : Hid (HoldsB gb t.data.toList W) := hh
          have hwg : w.heap.size ≤ gb := by rw [← hgb]; exact HBU.out.size
          clear hgb hbW hh hkU hsU
          have hL0 : Calls Try.prog 7 #[.slice o2 d.length cp2, .int .i64 0] W fun e w' => ∃ v : Nat, e = .returned (.int .i64 v) ∧ v < 256 ∧ W = w' := lawAt o2 d cp2 0 W HEW.out (by omega)
          have hL1 : Calls Try.prog 7 #[.slice o2 d.length cp2, .int .i64 1] W fun e w' => ∃ v : Nat, e = .returned (.int .i64 v) ∧ v < 256 ∧ W = w' := lawAt o2 d cp2 1 W HEW.out (by omega)
          go_wp2_with fail
          refine hL0.mono ?_
          rintro e w5 ⟨m0, rfl, hm0, rfl⟩
          go_wp2_with fail
          refine hL1.mono ?_
          rintro e w5 ⟨m1, rfl, hm1, rfl⟩
          obtain ⟨j, hj⟩ : ∃ j, (m0 * 256 + m1) % t.size = j := ⟨_, rfl⟩
          have hjl : j < t.size := by rw [← hj]; exact Nat.mod_lt _ (by omega)
          have hjI : ((m0 : Int) * 256 + (m1 : Int)) % (t.size : Int) = (j : Int) := by rw [← hj]; rfl
          have hne : ¬ (t.size : Int) = 0 := by omega
          clear hj hcv hL0 hL1
          go_wp2
          rw [hjI]
          clear hjI hne hm0 hm1
          have hjd : j < t.data.toList.length := by simpa using hjl
          obtain ⟨hcb, hfb⟩ := Hh.out j hjd
          have h8 : (t.data.toList[j]).toNat < 256 := UInt8.toNat_lt _
          have hjI2 : (j : Int) < (t.size : Int) := by omega
          have HU : ∀ q : UInt8, HoldsB gb (t.data.toList.set j q) ((({ W with drawn := W.drawn + 1 } : World)).setCell ⟨gb, j, none⟩ (.int .u8 (q.toNat : Int))) := fun q => HoldsB.set (w := { W with drawn := W.drawn + 1 }) Hh.out j hjd q
          refine wp_region_any (by kernel_rfl) ?_
          have hL2 : Calls Try.prog 7 #[.slice o2 d.length cp2, .int .i64 2] ({ W with drawn := W.drawn + 1 } : World) fun e w' => ∃ v : Nat, e = .returned (.int .i64 v) ∧ v < 256 ∧ ({ W with drawn := W.drawn + 1 } : World) = w' := lawAt o2 d cp2 2 _ HEW.out (by omega)
          have hcb2 : ({ W with drawn := W.drawn + 1 } : World).cell? ⟨gb, j, none⟩ = some (.int .u8 ((t.data.toList[j]).toNat : Int)) := hcb
          have hfb2 : ({ W with drawn := W.drawn + 1 } : World).frozen? ⟨gb, j, none⟩ = false := hfb
          have HB2 : Hid (Below w.heap.size w { W with drawn := W.drawn + 1 }) := HBW.out.drew
          have hkW2 : ({ W with drawn := W.drawn + 1 } : World).heap[g1]? = some (.cells #[.string kd, .string ks, .int .i64 x, .int .i64 y] 24 (0, 0)) := hkW
          have hsW2 : ({ W with drawn := W.drawn + 1 } : World).heap[g3]? = some (.cells #[.int .i64 (a : Nat), .int .i64 (b : Nat)] 28 (0, 0)) := hsW
          have HUU := (show Hid _ from HU)
          clear HU hkW hsW HBW hcb hfb Hh HEW
          generalize ({ W with drawn := W.drawn + 1 } : World) = X at hL2 hcb2 hfb2 HB2 hkW2 hsW2 HUU ⊢
          clear W
          generalize hbq : t.data.toList[j] = bq at *
          refine wpAny_take (i := 0) (v := .slice (some ⟨gb, 0, none⟩) t.size cap) rfl (by kernel_rfl) (by kernel_rfl) (by kernel_rfl) (fun _ _ _ h => h) (Or.inl ⟨by rfl, ?_⟩) ?_
          · intro w
            go_simp
          go_simp
          refine wpAny_take (i := 1) (v := .int .i64 (j : Int)) rfl (by kernel_rfl) (by kernel_rfl) (by kernel_rfl) (fun _ _ _ h => h) (Or.inl ⟨by rfl, ?_⟩) ?_
          · intro w
            go_simp
          go_simp
          refine wpAny_take (i := 2) (v := .slice (some ⟨gb, 0, none⟩) t.size cap) rfl (by kernel_rfl) (by kernel_rfl) (by kernel_rfl) (fun _ _ _ h => h) (Or.inl ⟨by rfl, ?_⟩) ?_
          · intro w
            go_simp
          go_simp
          refine wpAny_take (i := 3) (v := .int .i64 (j : Int)) rfl (by kernel_rfl) (by kernel_rfl) (by kernel_rfl) (fun _ _ _ h => h) (Or.inl ⟨by rfl, ?_⟩) ?_
          · intro w
            go_simp
          go_simp
          refine wpAny_take (i := 6) (v := .slice o2 d.length cp2) rfl (by kernel_rfl) (by kernel_rfl) (by kernel_rfl) (fun _ _ _ h => h) (Or.inl ⟨by rfl, ?_⟩) ?_
          · intro w
            go_simp
          go_simp
          refine wpAny_take (i := 4) (v := .pointer (some ⟨gb, j, none⟩)) rfl (by kernel_rfl) (by kernel_rfl) (by kernel_rfl) (fun _ _ _ h => h) (Or.inl ⟨by rfl, ?_⟩) ?_
          · intro w
            go_simp
          go_simp
          refine wpAny_ready (rs := [5, 7]) (by kernel_rfl) (by simp) ?_
          refine AllReady.cons rfl (fun K hK => ?_) (AllReady.cons rfl (fun K hK => ?_) AllReady.nil)
          · go_simp
            refine hK _ _ ?_
            clear hK K
            go_simp
            refine wpAny_ready (rs := [7]) (by kernel_rfl) (by simp) ?_
            refine AllReady.cons rfl (fun K hK => ?_) AllReady.nil
            go_simp
            refine hL2.mono ?_
            rintro e w6 ⟨m2, rfl, hm2, rfl⟩
            go_simp
            refine hK _ _ ?_
            clear hK K
            go_simp
            obtain ⟨q, hq⟩ : ∃ q, m2 % 255 = q := ⟨_, rfl⟩
            have hq255 : q < 255 := by rw [← hq]; exact Nat.mod_lt _ (by omega)
            have htm : Int.tmod (m2 : Int) 255 = (q : Int) := by rw [Int.tmod_eq_emod_of_nonneg (by omega), ← hq]; rfl
            obtain ⟨r, hr, hrc⟩ := xor8_byte bq q hq255
            have wq : IntKind.i64.wrap (1 + (q : Int)) = 1 + (q : Int) := wr64 _ (by omega) (by omega)
            have wq8 : IntKind.u8.wrap (1 + (q : Int)) = 1 + (q : Int) := wrap8 _ (by omega) (by omega)
            have Hrc : Hid (r ≠ t.data.toList[j]'hjd) := by rw [hbq]; exact hrc
            clear hq hm2 hrc
            refine wpAny_take (i := 8) (v := .int .i64 (q : Int)) rfl (by kernel_rfl) (by kernel_rfl) (by kernel_rfl) (fun _ _ _ h => h) (Or.inl ⟨by rfl, ?_⟩) ?_
            · intro w
              go_simp
            go_simp
            refine wpAny_take (i := 9) (v := .int .i64 (1 + (q : Int))) rfl (by kernel_rfl) (by kernel_rfl) (by kernel_rfl) (fun _ _ _ h => h) (Or.inl ⟨by rfl, ?_⟩) ?_
            · intro w
              go_simp
            go_simp
            refine wpAny_take (i := 10) (v := .int .u8 (1 + (q : Int))) rfl (by kernel_rfl) (by kernel_rfl) (by kernel_rfl) (fun _ _ _ h => h) (Or.inl ⟨by rfl, ?_⟩) ?_
            · intro w
              go_simp
            go_simp
            refine wpAny_take (i := 11) (v := .int .u8 (r.toNat : Int)) rfl (by kernel_rfl) (by kernel_rfl) (by kernel_rfl) (fun _ _ _ h => h) (Or.inl ⟨by rfl, ?_⟩) ?_
            · intro w
              go_simp
            go_simp
            refine wpAny_take (i := 12) (v := .pointer (some ⟨gb, j, none⟩)) rfl (by kernel_rfl) (by kernel_rfl) (by kernel_rfl) (fun _ _ _ h => h) (Or.inl ⟨by rfl, ?_⟩) ?_
            · intro w
              go_simp
            go_simp
            refine wpAny_ready (rs := [13]) (by kernel_rfl) (by simp) ?_
            refine AllReady.cons rfl (fun K hK => ?_) AllReady.nil
            go_simp
            refine hK _ _ ?_
            clear hK K
            go_simp
            refine wpAny_done (by kernel_rfl) ?_ _
            have HH := HUU.out r
            have hkY : (X.setCell ⟨gb, j, none⟩ (.int .u8 (r.toNat : Int))).heap[g1]? = some (.cells #[.string kd, .string ks, .int .i64 x, .int .i64 y] 24 (0, 0)) := by simp [World.setCell, Array.getElem?_modify, hkW2, show gb ≠ g1 by omega]
            have hsY : (X.setCell ⟨gb, j, none⟩ (.int .u8 (r.toNat : Int))).heap[g3]? = some (.cells #[.int .i64 (a : Nat), .int .i64 (b : Nat)] 28 (0, 0)) := by simp [World.setCell, Array.getElem?_modify, hsW2, show gb ≠ g3 by omega]
            have HBY : Hid (Below w.heap.size w (X.setCell ⟨gb, j, none⟩ (.int .u8 (r.toNat : Int)))) := HB2.out.setCell hwg _
            generalize X.setCell ⟨gb, j, none⟩ (.int .u8 (r.toNat : Int)) = Y at HH hkY hsY HBY ⊢
            have hbk := HH.back (P := Try.prog) (cap := cap) 22 9 Try.underlying22 Try.underlying5 Try.underlying9
            rw [List.length_set, Pl.len_list] at hbk
            have ht2 : (⟨(t.data.toList.set j r).toArray⟩ : ByteArray).size ≤ 900 := by
              show (t.data.toList.set j r).toArray.size ≤ 900
              rw [List.size_toArray, List.length_set, Pl.len_list]
              exact ht
            have hI2 := fun w => implSumAny kd ks ⟨(t.data.toList.set j r).toArray⟩ x y w (by omega) (by omega) (by omega)
            have n1 : (sumN ⟨(t.data.toList.set j r).toArray⟩ x y).1 ≠ a := by
              rw [sumN, if_neg (by rw [Hk.out]; simp), HA1.out]
              exact turn_ne x.toNat t.data.toList j hjd r Hrc.out (by have := Hka.out; omega) (by have := Hka.out; omega)
            have n2 : (sumN ⟨(t.data.toList.set j r).toArray⟩ x y).2 ≠ b := by
              rw [sumN, if_neg (by rw [Hk.out]; simp), HB1.out]
              exact turn_ne y.toNat t.data.toList j hjd r Hrc.out (by have := Hka.out; omega) (by have := Hka.out; omega)
            generalize (sumN ⟨(t.data.toList.set j r).toArray⟩ x y).1 = a2 at hI2 n1
            generalize (sumN ⟨(t.data.toList.set j r).toArray⟩ x y).2 = b2 at hI2 n2
            generalize (⟨(t.data.toList.set j r).toArray⟩ : ByteArray) = t2 at hI2 hbk ht2
            have m1' : ((a2 : Int) != ((a : Nat) : Int)) = true := by simp; omega
            have m2' : ((b2 : Int) != ((b : Nat) : Int)) = true := by simp; omega
            have k0 : Y.cell? ⟨g1, 0, none⟩ = some (.string kd) := by simp [World.cell?, hkY]
            have k1 : Y.cell? ⟨g1, 1, none⟩ = some (.string ks) := by simp [World.cell?, hkY]
            have k2 : Y.cell? ⟨g1, 2, none⟩ = some (.int .i64 x) := by simp [World.cell?, hkY]
            have k3 : Y.cell? ⟨g1, 3, none⟩ = some (.int .i64 y) := by simp [World.cell?, hkY]
            clear HUU HH hkW2 hsW2 HB2 hcb2 hfb2 hL2 hr htm wq wq8 n1 n2 hbq hkY
            go_wp2_with fail
            refine (hI2 _).mono ?_
            rintro e w7 ⟨rfl, hb7⟩
            have hs7 := (hb7.block _ (heap_lt hsY)).trans hsY
            have hB7 := HBY.out.trans (hb7.mono HBY.out.size)
            have hB8 : Below w.heap.size w (w7.alloc (.cells #[.int .i64 a2, .int .i64 b2] 28)) := hB7.alloc hB7.size _
            have hs8 := (heap_alloc_old w7 (.cells #[.int .i64 a2, .int .i64 b2] 28) g3 (heap_lt hs7)).trans hs7
            have s0 : (w7.alloc (.cells #[.int .i64 a2, .int .i64 b2] 28)).cell? ⟨g3, 0, none⟩ = some (.int .i64 (a : Nat)) := by simp [World.cell?, hs8]
            have s1 : (w7.alloc (.cells #[.int .i64 a2, .int .i64 b2] 28)).cell? ⟨g3, 1, none⟩ = some (.int .i64 (b : Nat)) := by simp [World.cell?, hs8]
            clear hI2 hb7 hsY HBY hs7 hs8 hB7 k0 k1 k2 k3 hbk
            go_wp2
            go_ret
            exact ⟨rfl, hB8⟩
          · go_simp
            refine hL2.mono ?_
            rintro e w6 ⟨m2, rfl, hm2, rfl⟩
            go_simp
            refine hK _ _ ?_
            clear hK K
            go_simp
            obtain ⟨q, hq⟩ : ∃ q, m2 % 255 = q := ⟨_, rfl⟩
            have hq255 : q < 255 := by rw [← hq]; exact Nat.mod_lt _ (by omega)
            have htm : Int.tmod (m2 : Int) 255 = (q : Int) := by rw [Int.tmod_eq_emod_of_nonneg (by omega), ← hq]; rfl
            obtain ⟨r, hr, hrc⟩ := xor8_byte bq q hq255
            have wq : IntKind.i64.wrap (1 + (q : Int)) = 1 + (q : Int) := wr64 _ (by omega) (by omega)
            have wq8 : IntKind.u8.wrap (1 + (q : Int)) = 1 + (q : Int) := wrap8 _ (by omega) (by omega)
            have Hrc : Hid (r ≠ t.data.toList[j]'hjd) := by rw [hbq]; exact hrc
            clear hq hm2 hrc
            refine wpAny_take (i := 8) (v := .int .i64 (q : Int)) rfl (by kernel_rfl) (by kernel_rfl) (by kernel_rfl) (fun _ _ _ h => h) (Or.inl ⟨by rfl, ?_⟩) ?_
            · intro w
              go_simp
            go_simp
            refine wpAny_take (i := 9) (v := .int .i64 (1 + (q : Int))) rfl (by kernel_rfl) (by kernel_rfl) (by kernel_rfl) (fun _ _ _ h => h) (Or.inl ⟨by rfl, ?_⟩) ?_
            · intro w
              go_simp
            go_simp
            refine wpAny_take (i := 10) (v := .int .u8 (1 + (q : Int))) rfl (by kernel_rfl) (by kernel_rfl) (by kernel_rfl) (fun _ _ _ h => h) (Or.inl ⟨by rfl, ?_⟩) ?_
            · intro w
              go_simp
            go_simp
            refine wpAny_ready (rs := [5]) (by kernel_rfl) (by simp) ?_
            refine AllReady.cons rfl (fun K hK => ?_) AllReady.nil
            go_simp
            refine hK _ _ ?_
            clear hK K
            go_simp
            refine wpAny_take (i := 11) (v := .int .u8 (r.toNat : Int)) rfl (by kernel_rfl) (by kernel_rfl) (by kernel_rfl) (fun _ _ _ h => h) (Or.inl ⟨by rfl, ?_⟩) ?_
            · intro w
              go_simp
            go_simp
            refine wpAny_take (i := 12) (v := .pointer (some ⟨gb, j, none⟩)) rfl (by kernel_rfl) (by kernel_rfl) (by kernel_rfl) (fun _ _ _ h => h) (Or.inl ⟨by rfl, ?_⟩) ?_
            · intro w
              go_simp
            go_simp
            refine wpAny_ready (rs := [13]) (by kernel_rfl) (by simp) ?_
            refine AllReady.cons rfl (fun K hK => ?_) AllReady.nil
            go_simp
            refine hK _ _ ?_
            clear hK K
            go_simp
            refine wpAny_done (by kernel_rfl) ?_ _
            have HH := HUU.out r
            have hkY : (X.setCell ⟨gb, j, none⟩ (.int .u8 (r.toNat : Int))).heap[g1]? = some (.cells #[.string kd, .string ks, .int .i64 x, .int .i64 y] 24 (0, 0)) := by simp [World.setCell, Array.getElem?_modify, hkW2, show gb ≠ g1 by omega]
            have hsY : (X.setCell ⟨gb, j, none⟩ (.int .u8 (r.toNat : Int))).heap[g3]? = some (.cells #[.int .i64 (a : Nat), .int .i64 (b : Nat)] 28 (0, 0)) := by simp [World.setCell, Array.getElem?_modify, hsW2, show gb ≠ g3 by omega]
            have HBY : Hid (Below w.heap.size w (X.setCell ⟨gb, j, none⟩ (.int .u8 (r.toNat : Int)))) := HB2.out.setCell hwg _
            generalize X.setCell ⟨gb, j, none⟩ (.int .u8 (r.toNat : Int)) = Y at HH hkY hsY HBY ⊢
            have hbk := HH.back (P := Try.prog) (cap := cap) 22 9 Try.underlying22 Try.underlying5 Try.underlying9
            rw [List.length_set, Pl.len_list] at hbk
            have ht2 : (⟨(t.data.toList.set j r).toArray⟩ : ByteArray).size ≤ 900 := by
              show (t.data.toList.set j r).toArray.size ≤ 900
              rw [List.size_toArray, List.length_set, Pl.len_list]
              exact ht
            have hI2 := fun w => implSumAny kd ks ⟨(t.data.toList.set j r).toArray⟩ x y w (by omega) (by omega) (by omega)
            have n1 : (sumN ⟨(t.data.toList.set j r).toArray⟩ x y).1 ≠ a := by
              rw [sumN, if_neg (by rw [Hk.out]; simp), HA1.out]
              exact turn_ne x.toNat t.data.toList j hjd r Hrc.out (by have := Hka.out; omega) (by have := Hka.out; omega)
            have n2 : (sumN ⟨(t.data.toList.set j r).toArray⟩ x y).2 ≠ b := by
              rw [sumN, if_neg (by rw [Hk.out]; simp), HB1.out]
              exact turn_ne y.toNat t.data.toList j hjd r Hrc.out (by have := Hka.out; omega) (by have := Hka.out; omega)
            generalize (sumN ⟨(t.data.toList.set j r).toArray⟩ x y).1 = a2 at hI2 n1
            generalize (sumN ⟨(t.data.toList.set j r).toArray⟩ x y).2 = b2 at hI2 n2
            generalize (⟨(t.data.toList.set j r).toArray⟩ : ByteArray) = t2 at hI2 hbk ht2
            have m1' : ((a2 : Int) != ((a : Nat) : Int)) = true := by simp; omega
            have m2' : ((b2 : Int) != ((b : Nat) : Int)) = true := by simp; omega
            have k0 : Y.cell? ⟨g1, 0, none⟩ = some (.string kd) := by simp [World.cell?, hkY]
            have k1 : Y.cell? ⟨g1, 1, none⟩ = some (.string ks) := by simp [World.cell?, hkY]
            have k2 : Y.cell? ⟨g1, 2, none⟩ = some (.int .i64 x) := by simp [World.cell?, hkY]
            have k3 : Y.cell? ⟨g1, 3, none⟩ = some (.int .i64 y) := by simp [World.cell?, hkY]
            clear HUU HH hkW2 hsW2 HB2 hcb2 hfb2 hL2 hr htm wq wq8 n1 n2 hbq hkY
            go_wp2_with fail
            refine (hI2 _).mono ?_
            rintro e w7 ⟨rfl, hb7⟩
            have hs7 := (hb7.block _ (heap_lt hsY)).trans hsY
            have hB7 := HBY.out.trans (hb7.mono HBY.out.size)
            have hB8 : Below w.heap.size w (w7.alloc (.cells #[.int .i64 a2, .int .i64 b2] 28)) := hB7.alloc hB7.size _
            have hs8 := (heap_alloc_old w7 (.cells #[.int .i64 a2, .int .i64 b2] 28) g3 (heap_lt hs7)).trans hs7
            have s0 : (w7.alloc (.cells #[.int .i64 a2, .int .i64 b2] 28)).cell? ⟨g3, 0, none⟩ = some (.int .i64 (a : Nat)) := by simp [World.cell?, hs8]
            have s1 : (w7.alloc (.cells #[.int .i64 a2, .int .i64 b2] 28)).cell? ⟨g3, 1, none⟩ = some (.int .i64 (b : Nat)) := by simp [World.cell?, hs8]
            clear hI2 hb7 hsY HBY hs7 hs8 hB7 k0 k1 k2 k3 hbk
            go_wp2
            go_ret
            exact ⟨rfl, hB8⟩
end Go.Proofs.Ytkjjcoliaoddjaa
