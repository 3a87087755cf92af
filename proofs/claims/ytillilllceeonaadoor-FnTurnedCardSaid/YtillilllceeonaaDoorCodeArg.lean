
/- The draws of EncodeOp. -/

/- A law's own draws, a turned byte: FnSums' and FnTurned's. -/

/- FnTurned: its walk. -/

/- Bytes as an argument of a law. -/
import Derived.Test.YtillilllceeonaaDoorDrawOpG
import Derived.Test.YtillilllceeonaaDoorSumImpl
import Derived.Test.YtillilllceeonaaDoorWriteBox
import Derived.Test.YtillilllceeonaaDoorDwReadLog
import Derived.Test.YtillilllceeonaaDoorDraw
import Derived.ProofKit
import Derived.OpenShut
import Derived.ShutString
import Derived.ChangeOld
import Derived.ChangeSlices
import Derived.Below
import Derived.Carry
namespace Go.Proofs.YtillilllceeonaaDoor
open Go.RowKit Go.Lib Go.Maps
set_option maxRecDepth 20000 in
set_option maxHeartbeats 4000000 in
theorem drawEncodeOp (o : Option Addr) (c : List UInt8) (cp : Nat) (w : World) (hc : Code w.heap.size w o c) (hl : c.length ≤ 1048576) :
    Calls Tryd.prog 4 #[.slice o c.length cp] w fun e w' => ∃ (q : OpP) (uo fo : Option Addr) (uc fc : Nat), e = .returned (.agg #[.int .i64 q.k, .string q.bx, .string q.tt, .slice uo q.U.length uc, .slice fo q.P.length fc, .int .i64 q.tm, .int .i64 q.md, .string q.ms]) ∧ q.ok ∧ OwnN w.heap.size (.slice uo q.U.length uc) q.U w' ∧ OwnX w.heap.size (.slice fo q.P.length fc) q.P w' ∧ Below w.heap.size w w' := by
  obtain ⟨W1, hW1⟩ : ∃ W, w.alloc (.cells #[.int .i64 0, .string ⟨#[]⟩, .string ⟨#[]⟩, .slice none 0 0, .slice none 0 0, .int .i64 0, .int .i64 0, .string ⟨#[]⟩] 26) = W := ⟨_, rfl⟩
  have b1 : Below w.heap.size w W1 := by rw [← hW1]; exact (Below.refl _ _).alloc (Nat.le_refl _) _
  have s1 : W1.heap.size = w.heap.size + 1 := by rw [← hW1]; simp
  obtain ⟨R, hR⟩ : ∃ R, R = w.heap.size := ⟨_, rfl⟩
  have HR0 : Hid (W1.heap[R]? = some (.cells #[.int .i64 0, .string ⟨#[]⟩, .string ⟨#[]⟩, .slice none 0 0, .slice none 0 0, .int .i64 0, .int .i64 0, .string ⟨#[]⟩] 26 (0, 0))) := by rw [← hW1, hR]; exact hp_alloc _ _
  have hS := srcNew o c.length cp W1 hl
  have hR1 : R < W1.heap.size := by omega
  have hRw : w.heap.size ≤ R := by omega
  have Hb1 := mkHid b1
  have HC1 : Hid (Code w.heap.size W1 o c) := hc.below b1
  have HW1 := mkHid hW1
  have HRe := mkHid hR
  have hw1 : w.heap.size ≤ W1.heap.size := by omega
  have hw0 : w.heap.size ≤ W1.heap.size := by omega
  clear hW1 b1 hc hR s1
  go_enter Tryd.func4, Tryd.ntmps4
  go_wp2_with fail
  rw [HW1.out, ← HRe.out]
  refine hS.mono ?_
  rintro e w2 ⟨z, rfl, hz, hs2, hb2⟩
  obtain ⟨g, hg⟩ : ∃ g, g = W1.heap.size := ⟨_, rfl⟩
  have Hgw := mkHid hg
  rw [← hg] at hs2 hR1 hw1
  have hC2 : Code g w2 o c := by rw [hg]; exact ((HC1.out.mono hw0).below hb2)
  have hA := srcAnyOp g o c cp 0 z w2 hs2 hC2 (by omega) hl hz
  have HR2 : Hid (w2.heap[R]? = some (.cells #[.int .i64 0, .string ⟨#[]⟩, .string ⟨#[]⟩, .slice none 0 0, .slice none 0 0, .int .i64 0, .int .i64 0, .string ⟨#[]⟩] 26 (0, 0))) := (hb2.block R (hp_lt HR0.out)).trans HR0.out
  have Hb2 := mkHid hb2
  have hgl := hs2.lt
  rw [hg] at hA
  clear hS hs2 hb2 hC2 hg HR0
  go_wp2_with fail
  refine hA.mono ?_
  rintro e w3 ⟨q, uo, fo, uc, fc, a3, rfl, hq, hU, hP, hs3, hg3⟩
  rw [← Hgw.out] at hs3 hg3
  have hR3 := (hg3.block R (hp_lt HR2.out) (by intro e; have := Option.some.inj e; omega)).trans HR2.out
  have hb3 : Below W1.heap.size W1 w3 := by rw [Hgw.out] at hg3; exact gr_new Hb2.out hg3
  have hbw := Hb1.out.trans (hb3.mono (by omega))
  clear hA
  go_wp2_with (refine wpL_store_row rfl 26 _ _ rfl R _ rfl rfl 26 _ hR3 (by kernel_rfl) rfl (by simp [Value.oneCell']) ?_)
  refine bodyPost_ret (v := .agg #[.int .i64 q.k, .string q.bx, .string q.tt, .slice uo q.U.length uc, .slice fo q.P.length fc, .int .i64 q.tm, .int .i64 q.md, .string q.ms]) (results_cell_row Tryd.results4 _ _ R 26 _ (0, 0) _ rfl (setRow_heap _ _ _ _ _ _ hR3) Tryd.underlying26 rfl (by kernel_rfl)) rfl ?_
  have hw2 : w.heap.size ≤ w2.heap.size := by omega
  exact ⟨q, uo, fo, uc, fc, rfl, hq, row_stay (OwnN.baseD hU hw2) (fun k hk => setRow_other _ _ _ _ (row_not_block hU hR3 (by decide) k hk)), row_stay (OwnX.baseD hP hw2) (fun k hk => setRow_other _ _ _ _ (row_not_block hP hR3 (by decide) k hk)), ⟨hbw.os, hbw.tape, hbw.output, by simpa using hbw.size, fun i hi => (setRow_other w3 R i _ (by omega)).trans (hbw.block i hi)⟩⟩
end Go.Proofs.YtillilllceeonaaDoor
namespace Go.Proofs.YtillilllceeonaaDoor
open Go.RowKit Go.Lib
set_option maxRecDepth 20000 in
theorem lawAt (o : Option Addr) (c : List UInt8) (cp k : Nat) (w : World) (hc : Code w.heap.size w o c) (hk : k ≤ 10) :
    Calls Tryd.prog 9 #[.slice o c.length cp, .int .i64 k] w fun e w' => ∃ v : Nat, e = .returned (.int .i64 v) ∧ v < 256 ∧ w = w' := by
  by_cases h : k < c.length
  · obtain ⟨a, rfl, ha, hcell⟩ := hc k h
    have h8 : c[k].toNat < 256 := UInt8.toNat_lt _
    generalize c[k].toNat = x at *
    go_enter Tryd.func9, Tryd.ntmps9
    go_wp2
    go_ret
    exact ⟨x, rfl, h8, rfl⟩
  · go_enter Tryd.func9, Tryd.ntmps9
    go_wp2
    go_ret
    exact ⟨(k * 61 + 29) % 256, by first | rfl | (congr 1), Nat.mod_lt _ (by omega), rfl⟩
set_option maxRecDepth 20000 in
theorem wrap8 (n : Int) (h0 : 0 ≤ n) (h1 : n < 256) : IntKind.u8.wrap n = n := by
  simp [IntKind.wrap, IntKind.bits, IntKind.signed]
  omega
set_option maxRecDepth 20000 in
theorem xor8 (a b : Nat) (ha : a < 256) (hb : b < 256) : bits .xor .u8 (a : Int) (b : Int) = ((a ^^^ b : Nat) : Int) := by
  have hx : a ^^^ b < 2 ^ 8 := Nat.xor_lt_two_pow (by omega) (by omega)
  have h1 : (BitVec.ofInt 8 (a : Int)).toNat = a := by
    rw [BitVec.ofInt_natCast, BitVec.toNat_ofNat]; exact Nat.mod_eq_of_lt (by omega)
  have h2 : (BitVec.ofInt 8 (b : Int)).toNat = b := by
    rw [BitVec.ofInt_natCast, BitVec.toNat_ofNat]; exact Nat.mod_eq_of_lt (by omega)
  show IntKind.u8.wrap ((BitVec.ofInt 8 (a : Int) ^^^ BitVec.ofInt 8 (b : Int)).toNat : Int) = _
  rw [BitVec.toNat_xor, h1, h2, wrap8 _ (by omega) (by omega)]
set_option maxRecDepth 20000 in
theorem xor8_byte (c : UInt8) (q : Nat) (hq : q < 255) : ∃ r : UInt8, bits .xor .u8 (c.toNat : Int) (1 + (q : Int)) = (r.toNat : Int) ∧ r ≠ c := by
  have hc : c.toNat < 256 := UInt8.toNat_lt _
  have hx : c.toNat ^^^ (1 + q) < 2 ^ 8 := Nat.xor_lt_two_pow (by omega) (by omega)
  refine ⟨UInt8.ofNat (c.toNat ^^^ (1 + q)), ?_, ?_⟩
  · rw [show (1 : Int) + (q : Int) = ((1 + q : Nat) : Int) by omega, xor8 _ _ hc (by omega), UInt8.toNat_ofNat', Nat.mod_eq_of_lt (by omega)]
  · intro e
    have h := congrArg UInt8.toNat e
    rw [UInt8.toNat_ofNat', Nat.mod_eq_of_lt (by omega)] at h
    have h2 := congrArg (c.toNat ^^^ ·) h
    simp only [Nat.xor_self] at h2
    rw [← Nat.xor_assoc, Nat.xor_self, Nat.zero_xor] at h2
    omega
set_option maxRecDepth 20000 in
theorem turn_ne (A : Nat) (l : List UInt8) (j : Nat) (hj : j < l.length) (r : UInt8) (hr : r ≠ l[j]) (h0 : 1 ≤ A) (h1 : A < 2147483647) : Ps.sm A 1 (l.set j r) ≠ Ps.sm A 1 l := by
  rw [List.set_eq_take_append_cons_drop, if_pos hj]
  have e : l = l.take j ++ l[j] :: l.drop (j + 1) := by rw [← List.drop_eq_getElem_cons hj, List.take_append_drop]
  intro h
  refine Ps.sm_turn A 1 h0 h1 (l.take j) (l.drop (j + 1)) r l[j] hr ?_
  rw [h, ← e]
end Go.Proofs.YtillilllceeonaaDoor
namespace Go.Proofs.YtillilllceeonaaDoor
open Go.RowKit Go.Lib Go.Maps
set_option maxRecDepth 20000 in
theorem enc_flatU (U : List Int) : (U.flatMap (fun u => be 4 u.toNat)).length = 4 * U.length := by
  induction U with
  | nil => rfl
  | cons a U ih => rw [List.flatMap_cons, List.length_append, ih, be_len, List.length_cons]; omega
set_option maxRecDepth 20000 in
theorem enc_flatP (P : List ByteArray) (h : ∀ x ∈ P, x.size ≤ 255) : (P.flatMap (fun u => be 1 u.size ++ u.data.toList)).length ≤ 256 * P.length := by
  induction P with
  | nil => simp
  | cons a P ih =>
    have h1 := ih (fun x hx => h x (List.mem_cons_of_mem _ hx))
    have h2 := h a List.mem_cons_self
    have h3 : a.data.toList.length = a.size := by simp
    rw [List.flatMap_cons, List.length_append, List.length_append, be_len, List.length_cons]
    omega
set_option maxRecDepth 20000 in
theorem OpP.full.len {q : OpP} (h : q.full) : 1 ≤ q.enc.length ∧ q.enc.length ≤ 200000 := by
  obtain ⟨⟨hk1, hk9, hbx, htt, hu, hp, ht0, ht1, hm0, hm1, hms⟩, -, hPb⟩ := h
  have h1 := enc_flatU q.U
  have h2 := enc_flatP q.P hPb
  have e1 : q.bx.data.toList.length = q.bx.size := by simp
  have e2 : q.tt.data.toList.length = q.tt.size := by simp
  have e3 : q.ms.data.toList.length = q.ms.size := by simp
  unfold OpP.enc
  simp only [List.length_append, be_len, h1, e1, e2, e3]
  omega
set_option maxRecDepth 20000 in
/-- What the specification's encoder says of an operation. -/
theorem specEnc (B : Nat) (q : OpP) (uo fo : Option Addr) (uc fc : Nat) (w : World) (hU : OwnN B (.slice uo q.U.length uc) q.U w) (hP : OwnX B (.slice fo q.P.length fc) q.P w) :
    Calls Tryd.prog 5 #[.agg #[.int .i64 q.k, .string q.bx, .string q.tt, .slice uo q.U.length uc, .slice fo q.P.length fc, .int .i64 q.tm, .int .i64 q.md, .string q.ms]] w fun e w' => ∃ t, e = .returned (.string t) ∧ (t = ⟨#[]⟩ ∨ q.full) ∧ Below w.heap.size w w' := by
  by_cases h : q.inHead
  · refine (encIn q uo fo uc fc w h (fun j hj => OwnN.at hU j hj) (fun j hj => OwnX.at hP j hj)).mono ?_
    rintro e w' ⟨t, he, h1, hb⟩
    exact ⟨t, he, h1.imp id (fun h2 => ⟨h, h2⟩), hb⟩
  · refine (encOut q uo fo uc fc w h).mono ?_
    rintro e w' ⟨he, hb⟩
    exact ⟨_, he, .inl rfl, hb⟩
set_option maxRecDepth 20000 in
theorem HoldsB.below {g : Nat} {p : List UInt8} {w w' : World} (h : HoldsB g p w) (hg : g < w.heap.size) (hb : Below w.heap.size w w') : HoldsB g p w' := fun j hj => ⟨(hb.cell (p := ⟨g, j, none⟩) hg).trans (h j hj).1, (hb.frozen (p := ⟨g, j, none⟩) hg).trans (h j hj).2⟩
set_option maxRecDepth 20000 in
theorem wrap64T (n : Int) (h0 : -9223372036854775808 ≤ n) (h1 : n ≤ 9223372036854775807) : wrap64 n = n := by unfold wrap64; omega
set_option maxRecDepth 20000 in
theorem wrT (n : Int) (h0 : -9223372036854775808 ≤ n) (h1 : n ≤ 9223372036854775807) : IntKind.i64.wrap n = n := by
  simp [IntKind.wrap, IntKind.bits, IntKind.signed]
  omega
set_option maxRecDepth 20000 in
theorem fieldLog (o : Option Addr) (c : Nat) (n : Int) (w : World) : (Instr.field 32 (.agg #[.slice o 1 c, .int .i64 n]) 0).run Tryd.prog w = .ok (.slice o 1 c) w := by kernel_rfl
set_option maxRecDepth 20000 in
set_option maxHeartbeats 4000000 in
theorem turnedLong (v0 : Option Addr) (n0 c0 : Nat) (v1 : Option Addr) (n1 c1 : Nat) (w : World) (h0 : n0 ≤ maxLen) (h1 : n1 ≤ maxLen) (h : 1048576 < n0 ∨ 1048576 < n1) :
    Calls Tryd.prog 3 #[.slice v0 n0 c0, .slice v1 n1 c1] w fun e w' => e = .returned (.bool true) ∧ Below w.heap.size w w' := by
  unfold maxLen at h0 h1
  by_cases hA : 1048576 < n0
  · have e0 : (1048576 : Int) < (n0 : Int) := by omega
    clear h
    go_enter Tryd.func3, Tryd.ntmps3
    go_wp2
    go_ret
    exact ⟨rfl, Below.refl _ _⟩
  · have e0 : ¬ (1048576 : Int) < (n0 : Int) := by omega
    have e1 : (1048576 : Int) < (n1 : Int) := by omega
    clear h
    go_enter Tryd.func3, Tryd.ntmps3
    go_wp2
    go_ret
    exact ⟨rfl, Below.refl _ _⟩
set_option maxRecDepth 20000 in
set_option maxHeartbeats 8000000 in
theorem walkTurned (o1 o2 : Option Addr) (c d : List UInt8) (cp1 cp2 : Nat) (w : World) (hc : Code w.heap.size w o1 c) (hd : Code w.heap.size w o2 d) (hl1 : c.length ≤ 1048576) (hl2 : d.length ≤ 1048576) (a : Addr) (et : TypeId) (ep : Value) (hs : w.cell? ⟨1, 0, none⟩ = some (.iface 132 (.pointer (some a)))) (hz : w.cell? ⟨0, 0, none⟩ = some (.iface et ep)) :
    Calls Tryd.prog 3 #[.slice o1 c.length cp1, .slice o2 d.length cp2] w fun e w' => e = .returned (.bool true) ∧ Below w.heap.size w w' := by
  have HE := mkHid hd
  have Hs : Hid (∀ W, Below w.heap.size w W → W.cell? ⟨1, 0, none⟩ = some (.iface 132 (.pointer (some a)))) := mkHid (fun W hb => (hb.cell (p := ⟨1, 0, none⟩) (World.block_lt_of_cell? _ _ hs)).trans hs)
  have Hz : Hid (∀ W, Below w.heap.size w W → W.cell? ⟨0, 0, none⟩ = some (.iface et ep)) := mkHid (fun W hb => (hb.cell (p := ⟨0, 0, none⟩) (World.block_lt_of_cell? _ _ hz)).trans hz)
  have cD := mkHid (drawEncodeOp o1 c cp1 w hc hl1)
  have e0 : ¬ (1048576 : Int) < (c.length : Int) := by omega
  have e1 : ¬ (1048576 : Int) < (d.length : Int) := by omega
  clear hc hd hs hz
  go_enter Tryd.func3, Tryd.ntmps3
  go_wp2_with fail
  refine cD.out.mono ?_
  rintro e w1 ⟨q, uo, fo, uc, fc, rfl, -, hU, hP, hb1⟩
  obtain ⟨V1, hV1⟩ : ∃ V, V = w1.alloc (.cells #[.int .i64 q.k, .string q.bx, .string q.tt, .slice uo q.U.length uc, .slice fo q.P.length fc, .int .i64 q.tm, .int .i64 q.md, .string q.ms] 26) := ⟨_, rfl⟩
  have hv1 : Below w1.heap.size w1 V1 := by rw [hV1]; exact (Below.refl _ _).alloc (Nat.le_refl _) _
  have hB1 : Below w.heap.size w V1 := hb1.trans (hv1.mono hb1.size)
  have hO1 : V1.heap[w1.heap.size]? = some (.cells #[.int .i64 q.k, .string q.bx, .string q.tt, .slice uo q.U.length uc, .slice fo q.P.length fc, .int .i64 q.tm, .int .i64 q.md, .string q.ms] 26 (0, 0)) := by rw [hV1]; exact hp_alloc _ _
  have hU1 : OwnN w.heap.size (.slice uo q.U.length uc) q.U V1 := row_stay hU (fun k hk => hv1.block k (World.ownsRow.lt hU k hk).2)
  have hP1 : OwnX w.heap.size (.slice fo q.P.length fc) q.P V1 := row_stay hP (fun k hk => hv1.block k (World.ownsRow.lt hP k hk).2)
  have cE := mkHid (specEnc w.heap.size q uo fo uc fc V1 hU1 hP1)
  have HU1 := mkHid hU1
  have HP1 := mkHid hP1
  have HO1 := mkHid hO1
  have HB1 := mkHid hB1
  have HV1 := mkHid hV1
  rw [hV1] at hO1
  have HO1' := mkHid hO1
  clear hU hP hb1 hv1 hB1 hO1 hU1 hP1 hV1 cD
  go_wp2_with (refine wpL_load_row rfl 26 _ rfl w1.heap.size #[.int .i64 q.k, .string q.bx, .string q.tt, .slice uo q.U.length uc, .slice fo q.P.length fc, .int .i64 q.tm, .int .i64 q.md, .string q.ms] 26 (0, 0) _ rfl HO1'.out Tryd.underlying26 rfl (by kernel_rfl) ?_)
  rw [← HV1.out]
  refine cE.out.mono ?_
  rintro e w2 ⟨t, rfl, ht, hb2⟩
  have HB2 : Hid (Below w.heap.size w w2) := mkHid (HB1.out.trans (hb2.mono HB1.out.size))
  cases htl : t.toList.isEmpty with
  | true =>
    clear ht
    go_wp2
    go_ret
    exact ⟨rfl, HB2.out⟩
  | false =>
  have hq : q.full := ht.resolve_left (fun e => by rw [e] at htl; simp at htl)
  clear ht
  have hO2 : w2.heap[w1.heap.size]? = some (.cells #[.int .i64 q.k, .string q.bx, .string q.tt, .slice uo q.U.length uc, .slice fo q.P.length fc, .int .i64 q.tm, .int .i64 q.md, .string q.ms] 26 (0, 0)) := (hb2.block _ (lt_of_blk HO1.out)).trans HO1.out
  have hU2 : OwnN w.heap.size (.slice uo q.U.length uc) q.U w2 := row_stay HU1.out (fun k hk => hb2.block k (World.ownsRow.lt HU1.out k hk).2)
  have hP2 : OwnX w.heap.size (.slice fo q.P.length fc) q.P w2 := row_stay HP1.out (fun k hk => hb2.block k (World.ownsRow.lt HP1.out k hk).2)
  have cI := mkHid (implEncode w.heap.size q uo fo uc fc w2 hU2 hP2 hq q.enc rfl)
  obtain ⟨tt, htt⟩ : ∃ x : ByteArray, x = ⟨q.enc.toArray⟩ := ⟨_, rfl⟩
  have htq : tt.data.toList = q.enc := by rw [htt]
  have hln := hq.len
  rw [← htq] at hln
  have hsz : tt.data.toList.length = tt.size := by simp
  have ht1 : 1 ≤ tt.size := by omega
  have ht2 : tt.size ≤ 200000 := by omega
  rw [← htt] at cI
  have HO2 := mkHid hO2
  have Hq := mkHid hq
  have Htq := mkHid htq
  clear hb2 hO2 hU2 hP2 htt htq hln hsz HU1 HP1 HO1 HO1' HB1 HV1 cE
  go_wp2_with (refine wpL_load_row rfl 26 _ rfl w1.heap.size #[.int .i64 q.k, .string q.bx, .string q.tt, .slice uo q.U.length uc, .slice fo q.P.length fc, .int .i64 q.tm, .int .i64 q.md, .string q.ms] 26 (0, 0) _ rfl HO2.out Tryd.underlying26 rfl (by kernel_rfl) ?_)
  refine cI.out.mono ?_
  rintro e w3 ⟨rfl, hb3⟩
  have HB3 : Hid (Below w.heap.size w w3) := mkHid (HB2.out.trans (hb3.mono HB2.out.size))
  have cF := mkHid (implPutFrame tt w3 ht2 ht1 (frB tt) rfl)
  obtain ⟨dd, hdd⟩ : ∃ x : ByteArray, x = ⟨(frB tt).toArray⟩ := ⟨_, rfl⟩
  have hdq : dd.data.toList = frB tt := by rw [hdd]
  have hsz : tt.data.toList.length = tt.size := by simp
  have hds : dd.size = 9 + tt.size := by
    have h1 : dd.data.toList.length = dd.size := by simp
    rw [← h1, hdq, frB]
    simp only [List.length_append, be_len, hsz]
  rw [← hdd] at cF
  have Hdq := mkHid hdq
  have Hds := mkHid hds
  clear hb3 hdd hdq hsz hds HB2 cI
  go_wp2_with fail
  refine cF.out.mono ?_
  rintro e w4 ⟨rfl, hb4⟩
  have HB4 : Hid (Below w.heap.size w w4) := mkHid (HB3.out.trans (hb4.mono HB3.out.size))
  obtain ⟨cap, W5, hcv, hh, hbW⟩ := bytesOf (P := Tryd.prog) 9 22 Tryd.underlying9 Tryd.underlying22 Tryd.underlying5 dd w4
  have HB5 : Hid (Below w.heap.size w W5) := mkHid (HB4.out.trans (hbW.mono HB4.out.size))
  obtain ⟨gb, hgb⟩ : ∃ gb, gb = w4.heap.size := ⟨_, rfl⟩
  have hgl5 : gb < W5.heap.size ∨ dd.size = 0 := by
    rcases Nat.eq_zero_or_pos dd.size with h | h
    · exact .inr h
    · left
      have h2 : 0 < dd.data.toList.length := by simpa using h
      have h3 := (hh 0 h2).1
      rw [hgb]
      exact World.block_lt_of_cell? _ _ h3
  have hgl5' : gb < W5.heap.size := hgl5.resolve_right (by have := Hds.out; omega)
  rw [← hgb] at hcv hh
  have hwg : w.heap.size ≤ gb := by rw [hgb]; exact HB4.out.size
  have Hh5 := mkHid hh
  have hbk : (convert 22 9 (.slice (some ⟨gb, 0, none⟩) dd.size cap)).run Tryd.prog W5 = .ok (.string dd) W5 := by
    have h1 := hh.back (P := Tryd.prog) (cap := cap) 22 9 Tryd.underlying22 Tryd.underlying5 Tryd.underlying9
    have h2 : dd.data.toList.length = dd.size := by simp
    rw [h2] at h1
    exact h1
  have cR := mkHid (readWhole q tt dd (frB tt) a W5 (Hs.out W5 HB5.out) Hq.out Htq.out ht2 ht1 (by simp [frB, List.append_assoc]) Hdq.out (by have := Hds.out; omega))
  have l9 : ¬ (dd.size : Int) < 10 := by have := Hds.out; omega
  clear hb4 hh hbW hgb hgl5 HB3 HB4 cF
  go_wp2_with fail
  refine cR.out.mono ?_
  rintro e W6 ⟨lo, lc, ln, rfl, hb6⟩
  have HB6 : Hid (Below w.heap.size w W6) := mkHid (HB5.out.trans (hb6.mono HB5.out.size))
  have Hh6 : Hid (HoldsB gb dd.data.toList W6) := mkHid (Hh5.out.below hgl5' hb6)
  have HE6 : Hid (Code W6.heap.size W6 o2 d) := mkHid ((HE.out.below HB6.out).mono HB6.out.size)
  have hfl := fieldLog lo lc ln
  have hL0 := mkHid (lawAt o2 d cp2 0 W6 HE6.out (by omega))
  have hL1 := mkHid (lawAt o2 d cp2 1 W6 HE6.out (by omega))
  clear hb6 Hh5 HB5 cR hcv hbk
  go_wp2_with fail
  refine hL0.out.mono ?_
  rintro e w7 ⟨m0, rfl, hm0, rfl⟩
  go_wp2_with fail
  refine hL1.out.mono ?_
  rintro e w7 ⟨m1, rfl, hm1, rfl⟩
  obtain ⟨N, hN⟩ : ∃ N, N = tt.size := ⟨_, rfl⟩
  have hdN : dd.size = N + 9 := by have := Hds.out; omega
  have hN0 : ¬ (N : Int) = 0 := by omega
  obtain ⟨j, hj⟩ : ∃ j, (m0 * 256 + m1) % N = j := ⟨_, rfl⟩
  have hjl : j < N := by rw [← hj]; exact Nat.mod_lt _ (by omega)
  have Hj : Hid (j < tt.size) := mkHid (by omega)
  obtain ⟨J, hJ⟩ : ∃ J, J = 9 + j := ⟨_, rfl⟩
  have Hw2 : Hid (wrap64 (9 + (j : Int)) = (J : Int)) := mkHid (by rw [wrap64T _ (by omega) (by omega)]; omega)
  have HJ := mkHid hJ
  have hjd : J < dd.size := by omega
  have hjI2 : (J : Int) < (dd.size : Int) := by omega
  have hjI : ((m0 : Int) * 256 + (m1 : Int)) % (N : Int) = (j : Int) := by rw [← hj]; rfl
  have hw1 : wrap64 ((dd.size : Int) - 9) = (N : Int) := by rw [wrap64T _ (by omega) (by omega)]; omega
  clear hj hN hdN hJ
  go_wp2
  rw [Hw2.out]
  clear hw1 hN0 hjI Hw2 hjl hm0 hm1
  have hjL : J < dd.data.toList.length := by simpa using hjd
  obtain ⟨bq, hbq⟩ : ∃ b, b = dd.data.toList[J]'hjL := ⟨_, rfl⟩
  obtain ⟨hcb, hfb⟩ := Hh6.out (J) hjL
  rw [← hbq] at hcb
  have Hbq := mkHid hbq
  obtain ⟨X, hX⟩ : ∃ X, X = W6.drew := ⟨_, rfl⟩
  have hbX : Below W6.heap.size W6 X := by rw [hX]; exact (Below.refl _ _).drew
  have HBX : Hid (Below w.heap.size w X) := mkHid (HB6.out.trans (hbX.mono HB6.out.size))
  have HhX : Hid (HoldsB gb dd.data.toList X) := mkHid (by rw [hX]; exact Hh6.out)
  have HSX : Hid (X.cell? ⟨gb, J, none⟩ = some (.int .u8 (bq.toNat : Int))) := mkHid (by rw [hX]; exact hcb)
  have hfX : X.frozen? ⟨gb, J, none⟩ = false := by rw [hX]; exact hfb
  have cL := mkHid (lawAt o2 d cp2 2 X ((HE.out.below HBX.out).mono HBX.out.size) (by omega))
  have HXe := mkHid hX
  clear hcb hfb hbq hX hbX HB6 Hh6 HE6 hL0 hL1
  have hSX := HSX.out
  refine wp_region_any (by kernel_rfl) ?_
  rw [show ({ W6 with drawn := W6.drawn + 1 } : World) = X from HXe.out.symm]
  refine wpAny_take (i := 0) (v := .slice (some ⟨gb, 0, none⟩) dd.size cap) rfl (by kernel_rfl) (by kernel_rfl) (by kernel_rfl) (fun _ _ _ h => h) (Or.inl ⟨by rfl, ?_⟩) ?_
  · intro w
    go_simp
    all_goals first | done | (intro h; exfalso; omega) | omega
  go_simp
  refine wpAny_take (i := 1) (v := .int .i64 (J : Int)) rfl (by kernel_rfl) (by kernel_rfl) (by kernel_rfl) (fun _ _ _ h => h) (Or.inl ⟨by rfl, ?_⟩) ?_
  · intro w
    go_simp
    all_goals first | done | (intro h; exfalso; omega) | omega
  go_simp
  refine wpAny_take (i := 2) (v := .slice (some ⟨gb, 0, none⟩) dd.size cap) rfl (by kernel_rfl) (by kernel_rfl) (by kernel_rfl) (fun _ _ _ h => h) (Or.inl ⟨by rfl, ?_⟩) ?_
  · intro w
    go_simp
    all_goals first | done | (intro h; exfalso; omega) | omega
  go_simp
  refine wpAny_take (i := 3) (v := .int .i64 (J : Int)) rfl (by kernel_rfl) (by kernel_rfl) (by kernel_rfl) (fun _ _ _ h => h) (Or.inl ⟨by rfl, ?_⟩) ?_
  · intro w
    go_simp
    all_goals first | done | (intro h; exfalso; omega) | omega
  go_simp
  refine wpAny_take (i := 6) (v := .slice o2 d.length cp2) rfl (by kernel_rfl) (by kernel_rfl) (by kernel_rfl) (fun _ _ _ h => h) (Or.inl ⟨by rfl, ?_⟩) ?_
  · intro w
    go_simp
    all_goals first | done | (intro h; exfalso; omega) | omega
  go_simp
  refine wpAny_take (i := 4) (v := .pointer (some ⟨gb, J, none⟩)) rfl (by kernel_rfl) (by kernel_rfl) (by kernel_rfl) (fun _ _ _ h => h) (Or.inl ⟨by rfl, ?_⟩) ?_
  · intro w
    go_simp
    all_goals first | done | (intro h; exfalso; omega) | omega
  go_simp
  refine wpAny_ready (rs := [5, 7]) (by kernel_rfl) (by simp) ?_
  refine AllReady.cons rfl (fun K hK => ?_) (AllReady.cons rfl (fun K hK => ?_) AllReady.nil)
  · go_simp
    refine hK _ _ ?_
    clear hK K
    go_simp
    refine wpAny_ready (rs := [7]) (by kernel_rfl) (by simp) ?_
    refine AllReady.cons rfl (fun K hK => ?_) AllReady.nil
    go_simp
    refine cL.out.mono ?_
    rintro e w8 ⟨m2, rfl, hm2, rfl⟩
    go_simp
    refine hK _ _ ?_
    clear hK K
    go_simp
    obtain ⟨y, hy⟩ : ∃ y, m2 % 255 = y := ⟨_, rfl⟩
    have hy255 : y < 255 := by rw [← hy]; exact Nat.mod_lt _ (by omega)
    have htm : Int.tmod (m2 : Int) 255 = (y : Int) := by rw [Int.tmod_eq_emod_of_nonneg (by omega), ← hy]; rfl
    obtain ⟨r, hr, hrc⟩ := xor8_byte bq y hy255
    have wq : IntKind.i64.wrap (1 + (y : Int)) = 1 + (y : Int) := wrT _ (by omega) (by omega)
    have wq8 : IntKind.u8.wrap (1 + (y : Int)) = 1 + (y : Int) := wrap8 _ (by omega) (by omega)
    have Hrc := mkHid hrc
    clear hy hm2 hrc
    refine wpAny_take (i := 8) (v := .int .i64 (y : Int)) rfl (by kernel_rfl) (by kernel_rfl) (by kernel_rfl) (fun _ _ _ h => h) (Or.inl ⟨by rfl, ?_⟩) ?_
    · intro w
      go_simp
      all_goals first | done | (intro h; exfalso; omega) | omega
    go_simp
    refine wpAny_take (i := 9) (v := .int .i64 (1 + (y : Int))) rfl (by kernel_rfl) (by kernel_rfl) (by kernel_rfl) (fun _ _ _ h => h) (Or.inl ⟨by rfl, ?_⟩) ?_
    · intro w
      go_simp
      all_goals first | done | (intro h; exfalso; omega) | omega
    go_simp
    refine wpAny_take (i := 10) (v := .int .u8 (1 + (y : Int))) rfl (by kernel_rfl) (by kernel_rfl) (by kernel_rfl) (fun _ _ _ h => h) (Or.inl ⟨by rfl, ?_⟩) ?_
    · intro w
      go_simp
      all_goals first | done | (intro h; exfalso; omega) | omega
    go_simp
    refine wpAny_take (i := 11) (v := .int .u8 (r.toNat : Int)) rfl (by kernel_rfl) (by kernel_rfl) (by kernel_rfl) (fun _ _ _ h => h) (Or.inl ⟨by rfl, ?_⟩) ?_
    · intro w
      go_simp
      all_goals first | done | (intro h; exfalso; omega) | omega
    go_simp
    refine wpAny_take (i := 12) (v := .pointer (some ⟨gb, J, none⟩)) rfl (by kernel_rfl) (by kernel_rfl) (by kernel_rfl) (fun _ _ _ h => h) (Or.inl ⟨by rfl, ?_⟩) ?_
    · intro w
      go_simp
      all_goals first | done | (intro h; exfalso; omega) | omega
    go_simp
    refine wpAny_ready (rs := [13]) (by kernel_rfl) (by simp) ?_
    refine AllReady.cons rfl (fun K hK => ?_) AllReady.nil
    go_simp
    refine hK _ _ ?_
    clear hK K
    go_simp
    refine wpAny_done (by kernel_rfl) ?_ _
    obtain ⟨Y, hY⟩ : ∃ Y, Y = X.setCell ⟨gb, J, none⟩ (.int .u8 (r.toNat : Int)) := ⟨_, rfl⟩
    rw [← hY]
    have HhY : HoldsB gb (dd.data.toList.set J r) Y := by rw [hY]; exact HoldsB.set HhX.out J hjL r
    have HBY : Hid (Below w.heap.size w Y) := mkHid (by rw [hY]; exact HBX.out.setCell hwg _)
    obtain ⟨t2, ht2e⟩ : ∃ x : ByteArray, x = ⟨(tt.data.toList.set j r).toArray⟩ := ⟨_, rfl⟩
    obtain ⟨d2, hd2e⟩ : ∃ x : ByteArray, x = ⟨(dd.data.toList.set J r).toArray⟩ := ⟨_, rfl⟩
    have hsT : tt.data.toList.length = tt.size := by simp
    have hsD : dd.data.toList.length = dd.size := by simp
    have ht2l : t2.data.toList = tt.data.toList.set j r := by rw [ht2e]
    have hd2l : d2.data.toList = dd.data.toList.set J r := by rw [hd2e]
    have ht2s : t2.size = tt.size := by
      have h1 : t2.data.toList.length = t2.size := by simp
      rw [← h1, ht2l, List.length_set, hsT]
    have hd2s : d2.size = dd.size := by
      have h1 : d2.data.toList.length = d2.size := by simp
      rw [← h1, hd2l, List.length_set, hsD]
    have hbk : (convert 22 9 (.slice (some ⟨gb, 0, none⟩) dd.size cap)).run Tryd.prog Y = .ok (.string d2) Y := by
      have h1 := HhY.back (P := Tryd.prog) (cap := cap) 22 9 Tryd.underlying22 Tryd.underlying5 Tryd.underlying9
      rw [List.length_set, hsD, ← hd2e] at h1
      exact h1
    have hj2 : j < tt.data.toList.length := by rw [hsT]; exact Hj.out
    have hpre : (be 1 70 ++ be 4 tt.size ++ be 4 (frS tt)).length = 9 := by simp only [List.length_append, be_len]
    have hfb : frB tt = (be 1 70 ++ be 4 tt.size ++ be 4 (frS tt)) ++ tt.data.toList := rfl
    have hbqe : bq = tt.data.toList[j] := by
      rw [Hbq.out]
      simp only [Hdq.out, hfb]
      rw [List.getElem_append_right (by rw [hpre, HJ.out]; omega)]
      congr 1
      rw [hpre, HJ.out]
      omega
    have hd2f : d2.data.toList = be 1 70 ++ (be 4 t2.size ++ (be 4 (frS tt) ++ (t2.data.toList ++ []))) := by
      rw [hd2l, Hdq.out, hfb, List.set_append_right _ _ (by rw [hpre, HJ.out]; omega), hpre, HJ.out, Nat.add_sub_cancel_left, ← ht2l, ht2s]
      simp [List.append_assoc]
    have hne : frS tt ≠ frS t2 := by
      unfold frS
      rw [ht2l]
      exact fun e => turn_ne 65539 tt.data.toList j hj2 r (by rw [← hbqe]; exact Hrc.out) (by decide) (by decide) e.symm
    have cT := mkHid (readTurned (frS tt) t2 d2 _ et ep Y (Hz.out Y HBY.out) (by omega) (by omega) (by have := frS_lt tt; omega) hne hd2f rfl (by have := Hds.out; omega))
    have HYe := mkHid hY
    clear HhY hY ht2e hd2e hsT hsD ht2l hd2l ht2s hd2s hj2 hpre hfb hbqe hd2f hne hr htm wq wq8 cL HhX HSX hSX hfX
    go_wp2_with fail
    refine cT.out.mono ?_
    rintro e w9 ⟨rfl, hb9⟩
    have HB9 : Below w.heap.size w w9 := HBY.out.trans (hb9.mono HBY.out.size)
    have hb10 : Below w.heap.size w (w9.alloc (.cells #[.slice none 0 0, .int .i64 0] 32)) := HB9.alloc HB9.size _
    have h10 : (w9.alloc (.cells #[.slice none 0 0, .int .i64 0] 32)).heap[w9.heap.size]? = some (.cells #[.slice none 0 0, .int .i64 0] 32 (0, 0)) := hp_alloc _ _
    have k0 : (w9.alloc (.cells #[.slice none 0 0, .int .i64 0] 32)).cell? ⟨w9.heap.size, 0, none⟩ = some (.slice none 0 0) := (two_cells h10).1
    have k1 : (w9.alloc (.cells #[.slice none 0 0, .int .i64 0] 32)).cell? ⟨w9.heap.size, 1, none⟩ = some (.int .i64 0) := (two_cells h10).2
    have Hb10 := mkHid hb10
    clear hb9 HB9 hb10 h10 hbk cT
    go_wp2
    go_ret
    exact ⟨rfl, Hb10.out⟩
  · go_simp
    refine cL.out.mono ?_
    rintro e w8 ⟨m2, rfl, hm2, rfl⟩
    go_simp
    refine hK _ _ ?_
    clear hK K
    go_simp
    obtain ⟨y, hy⟩ : ∃ y, m2 % 255 = y := ⟨_, rfl⟩
    have hy255 : y < 255 := by rw [← hy]; exact Nat.mod_lt _ (by omega)
    have htm : Int.tmod (m2 : Int) 255 = (y : Int) := by rw [Int.tmod_eq_emod_of_nonneg (by omega), ← hy]; rfl
    obtain ⟨r, hr, hrc⟩ := xor8_byte bq y hy255
    have wq : IntKind.i64.wrap (1 + (y : Int)) = 1 + (y : Int) := wrT _ (by omega) (by omega)
    have wq8 : IntKind.u8.wrap (1 + (y : Int)) = 1 + (y : Int) := wrap8 _ (by omega) (by omega)
    have Hrc := mkHid hrc
    clear hy hm2 hrc
    refine wpAny_take (i := 8) (v := .int .i64 (y : Int)) rfl (by kernel_rfl) (by kernel_rfl) (by kernel_rfl) (fun _ _ _ h => h) (Or.inl ⟨by rfl, ?_⟩) ?_
    · intro w
      go_simp
      all_goals first | done | (intro h; exfalso; omega) | omega
    go_simp
    refine wpAny_take (i := 9) (v := .int .i64 (1 + (y : Int))) rfl (by kernel_rfl) (by kernel_rfl) (by kernel_rfl) (fun _ _ _ h => h) (Or.inl ⟨by rfl, ?_⟩) ?_
    · intro w
      go_simp
      all_goals first | done | (intro h; exfalso; omega) | omega
    go_simp
    refine wpAny_take (i := 10) (v := .int .u8 (1 + (y : Int))) rfl (by kernel_rfl) (by kernel_rfl) (by kernel_rfl) (fun _ _ _ h => h) (Or.inl ⟨by rfl, ?_⟩) ?_
    · intro w
      go_simp
      all_goals first | done | (intro h; exfalso; omega) | omega
    go_simp
    refine wpAny_ready (rs := [5]) (by kernel_rfl) (by simp) ?_
    refine AllReady.cons rfl (fun K hK => ?_) AllReady.nil
    go_simp
    refine hK _ _ ?_
    clear hK K
    go_simp
    refine wpAny_take (i := 11) (v := .int .u8 (r.toNat : Int)) rfl (by kernel_rfl) (by kernel_rfl) (by kernel_rfl) (fun _ _ _ h => h) (Or.inl ⟨by rfl, ?_⟩) ?_
    · intro w
      go_simp
      all_goals first | done | (intro h; exfalso; omega) | omega
    go_simp
    refine wpAny_take (i := 12) (v := .pointer (some ⟨gb, J, none⟩)) rfl (by kernel_rfl) (by kernel_rfl) (by kernel_rfl) (fun _ _ _ h => h) (Or.inl ⟨by rfl, ?_⟩) ?_
    · intro w
      go_simp
      all_goals first | done | (intro h; exfalso; omega) | omega
    go_simp
    refine wpAny_ready (rs := [13]) (by kernel_rfl) (by simp) ?_
    refine AllReady.cons rfl (fun K hK => ?_) AllReady.nil
    go_simp
    refine hK _ _ ?_
    clear hK K
    go_simp
    refine wpAny_done (by kernel_rfl) ?_ _
    obtain ⟨Y, hY⟩ : ∃ Y, Y = X.setCell ⟨gb, J, none⟩ (.int .u8 (r.toNat : Int)) := ⟨_, rfl⟩
    rw [← hY]
    have HhY : HoldsB gb (dd.data.toList.set J r) Y := by rw [hY]; exact HoldsB.set HhX.out J hjL r
    have HBY : Hid (Below w.heap.size w Y) := mkHid (by rw [hY]; exact HBX.out.setCell hwg _)
    obtain ⟨t2, ht2e⟩ : ∃ x : ByteArray, x = ⟨(tt.data.toList.set j r).toArray⟩ := ⟨_, rfl⟩
    obtain ⟨d2, hd2e⟩ : ∃ x : ByteArray, x = ⟨(dd.data.toList.set J r).toArray⟩ := ⟨_, rfl⟩
    have hsT : tt.data.toList.length = tt.size := by simp
    have hsD : dd.data.toList.length = dd.size := by simp
    have ht2l : t2.data.toList = tt.data.toList.set j r := by rw [ht2e]
    have hd2l : d2.data.toList = dd.data.toList.set J r := by rw [hd2e]
    have ht2s : t2.size = tt.size := by
      have h1 : t2.data.toList.length = t2.size := by simp
      rw [← h1, ht2l, List.length_set, hsT]
    have hd2s : d2.size = dd.size := by
      have h1 : d2.data.toList.length = d2.size := by simp
      rw [← h1, hd2l, List.length_set, hsD]
    have hbk : (convert 22 9 (.slice (some ⟨gb, 0, none⟩) dd.size cap)).run Tryd.prog Y = .ok (.string d2) Y := by
      have h1 := HhY.back (P := Tryd.prog) (cap := cap) 22 9 Tryd.underlying22 Tryd.underlying5 Tryd.underlying9
      rw [List.length_set, hsD, ← hd2e] at h1
      exact h1
    have hj2 : j < tt.data.toList.length := by rw [hsT]; exact Hj.out
    have hpre : (be 1 70 ++ be 4 tt.size ++ be 4 (frS tt)).length = 9 := by simp only [List.length_append, be_len]
    have hfb : frB tt = (be 1 70 ++ be 4 tt.size ++ be 4 (frS tt)) ++ tt.data.toList := rfl
    have hbqe : bq = tt.data.toList[j] := by
      rw [Hbq.out]
      simp only [Hdq.out, hfb]
      rw [List.getElem_append_right (by rw [hpre, HJ.out]; omega)]
      congr 1
      rw [hpre, HJ.out]
      omega
    have hd2f : d2.data.toList = be 1 70 ++ (be 4 t2.size ++ (be 4 (frS tt) ++ (t2.data.toList ++ []))) := by
      rw [hd2l, Hdq.out, hfb, List.set_append_right _ _ (by rw [hpre, HJ.out]; omega), hpre, HJ.out, Nat.add_sub_cancel_left, ← ht2l, ht2s]
      simp [List.append_assoc]
    have hne : frS tt ≠ frS t2 := by
      unfold frS
      rw [ht2l]
      exact fun e => turn_ne 65539 tt.data.toList j hj2 r (by rw [← hbqe]; exact Hrc.out) (by decide) (by decide) e.symm
    have cT := mkHid (readTurned (frS tt) t2 d2 _ et ep Y (Hz.out Y HBY.out) (by omega) (by omega) (by have := frS_lt tt; omega) hne hd2f rfl (by have := Hds.out; omega))
    have HYe := mkHid hY
    clear HhY hY ht2e hd2e hsT hsD ht2l hd2l ht2s hd2s hj2 hpre hfb hbqe hd2f hne hr htm wq wq8 cL HhX HSX hSX hfX
    go_wp2_with fail
    refine cT.out.mono ?_
    rintro e w9 ⟨rfl, hb9⟩
    have HB9 : Below w.heap.size w w9 := HBY.out.trans (hb9.mono HBY.out.size)
    have hb10 : Below w.heap.size w (w9.alloc (.cells #[.slice none 0 0, .int .i64 0] 32)) := HB9.alloc HB9.size _
    have h10 : (w9.alloc (.cells #[.slice none 0 0, .int .i64 0] 32)).heap[w9.heap.size]? = some (.cells #[.slice none 0 0, .int .i64 0] 32 (0, 0)) := hp_alloc _ _
    have k0 : (w9.alloc (.cells #[.slice none 0 0, .int .i64 0] 32)).cell? ⟨w9.heap.size, 0, none⟩ = some (.slice none 0 0) := (two_cells h10).1
    have k1 : (w9.alloc (.cells #[.slice none 0 0, .int .i64 0] 32)).cell? ⟨w9.heap.size, 1, none⟩ = some (.int .i64 0) := (two_cells h10).2
    have Hb10 := mkHid hb10
    clear hb9 HB9 hb10 h10 hbk cT
    go_wp2
    go_ret
    exact ⟨rfl, Hb10.out⟩
end Go.Proofs.YtillilllceeonaaDoor
namespace Go.Proofs.YtillilllceeonaaDoor
open Go.ChangeShapes Go.WideShapes Go.ChangeAt Go.RowKit
set_option maxRecDepth 20000 in
theorem wf8 (n : Int) (h : (Lit.int .u8 n).wf = true) : 0 ≤ n ∧ n < 256 := by
  have h' : (decide (IntKind.u8.min ≤ n) && decide (n ≤ IntKind.u8.max)) = true := h
  simp only [Bool.and_eq_true, decide_eq_true_eq] at h'
  have e0 : IntKind.u8.min = 0 := by decide
  have e1 : IntKind.u8.max = 255 := by decide
  omega
set_option maxRecDepth 20000 in
/-- Bytes as an argument. -/
theorem open_code {H : Type} {enc : TypeId × Value → H} {P : Program} {W : World} {sp : Nat → Bool} {t e : TypeId} {v : Value} {d : DataW H} {ps : List MemPlace}
    (ht : P.underlying t = some (.slice e)) (he : P.underlying e = some (.int .u8)) (ce : P.cellsOf e = 1) {r : Reach} {b0 : Nat} (hval : Value.okWide P W r b0 t v) (h : DataW.Trod enc P W 0 sp true t v d ps) :
    ∃ o c cap, v = .slice o c.length cap ∧ Code W.heap.size W o c ∧ c.length ≤ maxLen := by
  obtain ⟨a, len, cap, rfl⟩ := okWide_slice ht hval
  obtain ⟨fuel, hx⟩ := h
  rcases open_ints ht he ce hx with ⟨hc, -⟩ | ⟨a', len', cap', zs, hc, -, hl, hm, hz, -, hcell, hwf⟩
  · simp [Value.cells] at hc
    obtain ⟨rfl, rfl, rfl⟩ := hc
    exact ⟨none, [], 0, rfl, fun i hi => absurd hi (Nat.not_lt_zero _), Nat.zero_le _⟩
  · simp [Value.cells] at hc
    obtain ⟨rfl, rfl, rfl⟩ := hc
    have hlz : len ≤ zs.length := by rw [hz]; split <;> omega
    refine ⟨some a', (zs.take len).map fun n => UInt8.ofNat n.toNat, cap, by rw [List.length_map, List.length_take]; simp; omega, ?_, by rw [List.length_map, List.length_take]; omega⟩
    intro i hi
    rw [List.length_map, List.length_take] at hi
    have hc := hcell i (by omega)
    refine ⟨a', rfl, ?_, ?_⟩
    · have hlt : (a'.add i).block < W.heap.size := World.block_lt_of_cell? _ _ hc
      rw [← addr_block a' i]; exact hlt
    · have hw := wf8 zs[i] (hwf _ (List.getElem_mem (by omega)))
      have e : (((zs.take len).map fun n => UInt8.ofNat n.toNat)[i]'(by rw [List.length_map, List.length_take]; omega)).toNat = zs[i].toNat := by
        rw [List.getElem_map, List.getElem_take]
        simp [UInt8.toNat_ofNat']
        omega
      rw [e, hc, List.getD_eq_getElem?_getD, List.getElem?_eq_getElem (by omega)]
      show some (Value.int .u8 zs[i]) = _
      congr 2
      omega
end Go.Proofs.YtillilllceeonaaDoor
