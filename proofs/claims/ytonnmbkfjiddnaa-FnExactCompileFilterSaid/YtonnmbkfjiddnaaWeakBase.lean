
/- Marks on what was handed in: which kinds the cells keep, and that nothing but them turns. -/
import Derived.Test.YtonnmbkfjiddnaaCompMark3
namespace Go.Proofs.Ytonnmbkfjiddnaa
open Go.RowKit Go.Lib Go.Maps
/-- Of the blocks that were there only those from lo on and below hi turned, and each cell keeps its kind. -/
structure Kp (lo hi : Nat) (w w' : World) : Prop where
  os : w'.os = w.os
  tape : w'.tape = w.tape
  output : w'.output = w.output
  size : w.heap.size ≤ w'.heap.size
  out : ∀ k, k < w.heap.size → k < lo ∨ hi ≤ k → w'.heap[k]? = w.heap[k]?
  str : ∀ p t, w.cell? p = some (.string t) → ∃ t', w'.cell? p = some (.string t')
  int : ∀ p z, w.cell? p = some (.int .i64 z) → ∃ z', w'.cell? p = some (.int .i64 z')
  boo : ∀ p z, w.cell? p = some (.bool z) → ∃ z', w'.cell? p = some (.bool z')
  sli : ∀ p o n c, w.cell? p = some (.slice o n c) → w'.cell? p = some (.slice o n c)
  fro : ∀ p, p.block < w.heap.size → w'.frozen? p = w.frozen? p
theorem cell_ltW {w : World} {p : Addr} {v : Value} (h : w.cell? p = some v) : p.block < w.heap.size := by
  by_cases hb : p.block < w.heap.size
  · exact hb
  · have e : w.heap[p.block]? = none := Array.getElem?_eq_none (by omega)
    simp [World.cell?, e] at h
theorem spot_none {w : World} {p : Addr} {v : Value} (h : w.cell? p = some v) : p.spot = none := by
  unfold World.cell? at h
  split at h
  · cases hs : p.spot with
    | none => rfl
    | some x => simp [hs] at h
  · cases h
theorem Kp.refl (lo hi : Nat) (w : World) : Kp lo hi w w := ⟨rfl, rfl, rfl, Nat.le_refl _, fun _ _ _ => rfl, fun _ t h => ⟨t, h⟩, fun _ z h => ⟨z, h⟩, fun _ z h => ⟨z, h⟩, fun _ _ _ _ h => h, fun _ _ => rfl⟩
theorem Kp.trans {lo hi : Nat} {a b c : World} (h : Kp lo hi a b) (k : Kp lo hi b c) : Kp lo hi a c :=
  ⟨k.os.trans h.os, k.tape.trans h.tape, k.output.trans h.output, Nat.le_trans h.size k.size, fun i hi ho => (k.out i (Nat.lt_of_lt_of_le hi h.size) ho).trans (h.out i hi ho),
   fun p t e => let ⟨t', e'⟩ := h.str p t e; k.str p t' e', fun p t e => let ⟨t', e'⟩ := h.int p t e; k.int p t' e', fun p t e => let ⟨t', e'⟩ := h.boo p t e; k.boo p t' e',
   fun p o n c e => k.sli p o n c (h.sli p o n c e), fun p hp => (k.fro p (Nat.lt_of_lt_of_le hp h.size)).trans (h.fro p hp)⟩
theorem Kp.below {lo hi : Nat} {w w' : World} (hb : Below w.heap.size w w') : Kp lo hi w w' :=
  ⟨hb.os, hb.tape, hb.output, hb.size, fun k hk _ => hb.block k hk, fun p t h => ⟨t, (hb.cell (cell_ltW h)).trans h⟩, fun p t h => ⟨t, (hb.cell (cell_ltW h)).trans h⟩, fun p t h => ⟨t, (hb.cell (cell_ltW h)).trans h⟩, fun p _ _ _ h => (hb.cell (cell_ltW h)).trans h,
   fun p hp => by unfold World.frozen?; rw [hb.block p.block hp]⟩
theorem cell_setW {w : World} {q : Addr} {u : Value} (hq : w.cell? q = some u) (v : Value) {p : Addr} {x : Value} (hp : w.cell? p = some x) : (w.setCell q v).cell? p = some (if p = q then v else x) := by
  have sp := spot_none hp
  have sq := spot_none hq
  obtain ⟨pb, po, ps⟩ := p
  obtain ⟨qb, qo, qs⟩ := q
  simp only at sp sq
  subst sp sq
  by_cases hb : qb = pb
  · subst hb
    unfold World.cell? at hp hq ⊢
    simp only at hp hq ⊢
    split at hp
    · rename_i c t f he
      rw [he] at hq
      simp only [Option.isSome_none, Bool.false_eq_true, if_false] at hp hq
      have hm : (w.setCell ⟨qb, qo, none⟩ v).heap[qb]? = some (.cells (c.setIfInBounds qo v) t f) := by
        simp [World.setCell, Array.getElem?_modify, he]
      rw [hm]
      simp only [Option.isSome_none, Bool.false_eq_true, if_false, Addr.mk.injEq, true_and, and_true]
      rw [Array.getElem?_setIfInBounds]
      by_cases ho : qo = po
      · subst ho
        have : qo < c.size := by
          by_cases hl : qo < c.size
          · exact hl
          · rw [Array.getElem?_eq_none (by omega)] at hp
            cases hp
        simp [this]
      · rw [if_neg ho, hp, if_neg (fun e => ho e.symm)]
    · cases hp
  · have e : (w.setCell ⟨qb, qo, none⟩ v).heap[pb]? = w.heap[pb]? := hp_setG w qb qo pb v hb
    rw [if_neg (by intro h; injection h with h1; exact hb h1.symm)]
    unfold World.cell? at hp ⊢
    simp only at hp ⊢
    rw [e]
    exact hp
theorem fro_setW (w : World) (q : Addr) (v : Value) (p : Addr) : (w.setCell q v).frozen? p = w.frozen? p := by
  unfold World.frozen? World.setCell
  simp only [Array.getElem?_modify]
  by_cases h : q.block = p.block
  · rw [if_pos h]
    cases he : w.heap[p.block]? with
    | none => rfl
    | some o => cases o <;> rfl
  · rw [if_neg h]
theorem Kp.set {lo hi : Nat} {w : World} {q : Addr} {u : Value} (hq : w.cell? q = some u) (v : Value) (h1 : lo ≤ q.block) (h2 : q.block < hi)
    (hs : ∀ t, u = .string t → ∃ t', v = .string t') (hi' : ∀ t, u = .int .i64 t → ∃ t', v = .int .i64 t') (hb : ∀ t, u = .bool t → ∃ t', v = .bool t') (hn : ∀ o n c, u ≠ .slice o n c) : Kp lo hi w (w.setCell q v) := by
  refine ⟨rfl, rfl, rfl, by simp [World.setCell], ?_, ?_, ?_, ?_, ?_, fun p _ => fro_setW w q v p⟩
  · intro k hk ho
    exact Below.heap_setCell w q v k (by omega)
  · intro p t h
    rw [cell_setW hq v h]
    by_cases e : p = q
    · subst e
      rw [hq] at h
      obtain ⟨t', e'⟩ := hs t (Option.some.inj h)
      exact ⟨t', by rw [if_pos rfl, e']⟩
    · exact ⟨t, by rw [if_neg e]⟩
  · intro p t h
    rw [cell_setW hq v h]
    by_cases e : p = q
    · subst e
      rw [hq] at h
      obtain ⟨t', e'⟩ := hi' t (Option.some.inj h)
      exact ⟨t', by rw [if_pos rfl, e']⟩
    · exact ⟨t, by rw [if_neg e]⟩
  · intro p t h
    rw [cell_setW hq v h]
    by_cases e : p = q
    · subst e
      rw [hq] at h
      obtain ⟨t', e'⟩ := hb t (Option.some.inj h)
      exact ⟨t', by rw [if_pos rfl, e']⟩
    · exact ⟨t, by rw [if_neg e]⟩
  · intro p o n c h
    rw [cell_setW hq v h]
    by_cases e : p = q
    · subst e
      rw [hq] at h
      exact absurd (Option.some.inj h) (hn o n c)
    · rw [if_neg e]
theorem Kp.setI {lo hi : Nat} {w : World} {q : Addr} {z : Int} (hq : w.cell? q = some (.int .i64 z)) (h1 : lo ≤ q.block) (h2 : q.block < hi) (x : Int) : Kp lo hi w (w.setCell q (.int .i64 x)) :=
  Kp.set hq _ h1 h2 (fun _ h => by cases h) (fun _ _ => ⟨x, rfl⟩) (fun _ h => by cases h) (fun _ _ _ h => by cases h)
theorem Kp.setS {lo hi : Nat} {w : World} {q : Addr} {z : ByteArray} (hq : w.cell? q = some (.string z)) (h1 : lo ≤ q.block) (h2 : q.block < hi) (x : ByteArray) : Kp lo hi w (w.setCell q (.string x)) :=
  Kp.set hq _ h1 h2 (fun _ _ => ⟨x, rfl⟩) (fun _ h => by cases h) (fun _ h => by cases h) (fun _ _ _ h => by cases h)
/-- No cell of these blocks is frozen. -/
def Thaw (lo hi : Nat) (w : World) : Prop := ∀ p : Addr, lo ≤ p.block → p.block < hi → w.frozen? p = false
theorem Soft.thaw {lo : Nat} {w : World} (h : Soft lo w) : Thaw lo w.heap.size w := by
  intro p h1 h2
  obtain ⟨cs, t, e⟩ := h p.block h1 h2
  simp [World.frozen?, e]
theorem Thaw.kp {lo hi : Nat} {w w' : World} (h : Thaw lo hi w) (hk : Kp lo hi w w') (hh : hi ≤ w.heap.size) : Thaw lo hi w' := fun p h1 h2 => (hk.fro p (Nat.lt_of_lt_of_le h2 hh)).trans (h p h1 h2)
def WStr (lo hi : Nat) (w : World) (o : Option Addr) (n : Nat) : Prop := ∀ i, i < n → ∃ a t, o = some a ∧ lo ≤ (a.add i).block ∧ (a.add i).block < hi ∧ w.cell? (a.add i) = some (.string t)
def WInt (lo hi : Nat) (w : World) (o : Option Addr) (n : Nat) : Prop := ∀ i, i < n → ∃ a t, o = some a ∧ lo ≤ (a.add i).block ∧ (a.add i).block < hi ∧ w.cell? (a.add i) = some (.int .i64 t)
theorem WStr.kp {lo hi : Nat} {w w' : World} {o : Option Addr} {n : Nat} (h : WStr lo hi w o n) (hk : Kp lo hi w w') : WStr lo hi w' o n := by
  intro i hi
  obtain ⟨a, t, ho, h1, h2, h3⟩ := h i hi
  obtain ⟨t', e⟩ := hk.str _ _ h3
  exact ⟨a, t', ho, h1, h2, e⟩
theorem WInt.kp {lo hi : Nat} {w w' : World} {o : Option Addr} {n : Nat} (h : WInt lo hi w o n) (hk : Kp lo hi w w') : WInt lo hi w' o n := by
  intro i hi
  obtain ⟨a, t, ho, h1, h2, h3⟩ := h i hi
  obtain ⟨t', e⟩ := hk.int _ _ h3
  exact ⟨a, t', ho, h1, h2, e⟩
theorem TxL.weak {lo hi : Nat} {w : World} {o : Option Addr} {F : List ByteArray} (h : TxL lo hi w o F) : WStr lo hi w o F.length := by
  intro i hi
  obtain ⟨a, ho, h1, h2, h3⟩ := h i hi
  exact ⟨a, _, ho, by rw [add_blockG]; exact h1, by rw [add_blockG]; exact h2, h3⟩
theorem InL.weak {lo hi : Nat} {w : World} {o : Option Addr} {F : List Int} (h : InL lo hi w o F) : WInt lo hi w o F.length := by
  intro i hi
  obtain ⟨a, ho, h1, h2, h3⟩ := h i hi
  exact ⟨a, _, ho, by rw [add_blockG]; exact h1, by rw [add_blockG]; exact h2, h3⟩
set_option maxHeartbeats 1000000 in
theorem wkStr (o : Option Addr) (n cap k0 lo hi : Nat) (w : World) (h : WStr lo hi w o n) (ht : Thaw lo hi w) (hh : hi ≤ w.heap.size) (hn : n ≤ 1048576) (h0 : 0 < k0) (hk : k0 ≤ 9000000000000) :
    Calls Try.prog 24 #[.slice o n cap, .int .i64 k0] w fun e w' => ∃ k : Nat, e = .returned (.int .i64 k) ∧ Hid (k0 ≤ k ∧ k ≤ k0 + n) ∧ Hid (Kp lo hi w w') := by
  have H := mkHid h
  have HT := mkHid ht
  have HH := mkHid hh
  clear h ht hh
  go_enter Try.func24, Try.ntmps24
  go_wp2
  go_loopw [1, 5] (fun m i wr => ∃ k q : Nat, k ≤ n ∧ i = .int .i64 k ∧ m = .int .i64 (q : Int) ∧ Hid (q = k0 + k) ∧ Hid (Kp lo hi w wr)) (fun _ i _ => n - (Lib.intOf i).toNat)
  case atStart => exact ⟨0, k0, Nat.zero_le _, rfl, rfl, rfl, Kp.refl _ _ _⟩
  case round =>
    obtain ⟨k, q, hk, rfl, rfl, hq, hkp⟩ := hrel
    have hqb : q ≤ 9500000000000 := by have := hq.out; omega
    have hq0 : 0 < q := by have := hq.out; omega
    by_cases hlt : k < n
    · obtain ⟨a, t, rfl, b1, b2, hc⟩ := (H.out.kp hkp.out) k hlt
      have cT := mkHid (markText q wr hq0 (by omega))
      have hfz := mkHid ((HT.out.kp hkp.out HH.out) (a.add k) b1 b2)
      replace hc := mkHid hc
      replace b1 := mkHid b1
      replace b2 := mkHid b2
      clear H HT HH
      go_wp2_with fail
      refine cT.out.mono ?_
      rintro e w1 ⟨rfl, hb⟩
      have d0 := (hb.cell (cell_ltW hc.out)).trans hc.out
      have z0 := ((Kp.below (lo := lo) (hi := hi) hb).fro (a.add k) (cell_ltW hc.out)).trans hfz.out
      have hn := mkHid ((hkp.out.trans (Kp.below hb)).trans (Kp.setS d0 b1.out b2.out ⟨(Pl.mark q).toArray⟩))
      clear cT hfz hc hkp hb b1 b2
      go_wp2
      go_roundw
      case rel => exact ⟨k + 1, q + 1, by omega, by go_num, by go_num, by show _ = _; have := hq.out; omega, hn⟩
      case measure => simp [Lib.intOf]; omega
    · have hq2 : Hid (k0 ≤ q ∧ q ≤ k0 + n) := by show _ ∧ _; have := hq.out; omega
      go_wp2
      go_ret
      exact ⟨q, rfl, hq2, hkp⟩
set_option maxHeartbeats 1000000 in
theorem wkInt (o : Option Addr) (n cap k0 lo hi : Nat) (w : World) (h : WInt lo hi w o n) (ht : Thaw lo hi w) (hh : hi ≤ w.heap.size) (hn : n ≤ 1048576) (h0 : 0 < k0) (hk : k0 ≤ 9000000000000) :
    Calls Try.prog 25 #[.slice o n cap, .int .i64 k0] w fun e w' => ∃ k : Nat, e = .returned (.int .i64 k) ∧ Hid (k0 ≤ k ∧ k ≤ k0 + n) ∧ Hid (Kp lo hi w w') := by
  have H := mkHid h
  have HT := mkHid ht
  have HH := mkHid hh
  clear h ht hh
  go_enter Try.func25, Try.ntmps25
  go_wp2
  go_loopw [1, 5] (fun m i wr => ∃ k q : Nat, k ≤ n ∧ i = .int .i64 k ∧ m = .int .i64 (q : Int) ∧ Hid (q = k0 + k) ∧ Hid (Kp lo hi w wr)) (fun _ i _ => n - (Lib.intOf i).toNat)
  case atStart => exact ⟨0, k0, Nat.zero_le _, rfl, rfl, rfl, Kp.refl _ _ _⟩
  case round =>
    obtain ⟨k, q, hk, rfl, rfl, hq, hkp⟩ := hrel
    have hqb : q ≤ 9500000000000 := by have := hq.out; omega
    have hq0 : 0 < q := by have := hq.out; omega
    by_cases hlt : k < n
    · obtain ⟨a, t, rfl, b1, b2, hc⟩ := (H.out.kp hkp.out) k hlt
      have z0 := (HT.out.kp hkp.out HH.out) (a.add k) b1 b2
      have hn := mkHid (hkp.out.trans (Kp.setI hc b1 b2 (q : Int)))
      clear H HT HH hkp b1 b2
      go_wp2
      go_roundw
      case rel => exact ⟨k + 1, q + 1, by omega, by go_num, by go_num, by show _ = _; have := hq.out; omega, hn⟩
      case measure => simp [Lib.intOf]; omega
    · have hq2 : Hid (k0 ≤ q ∧ q ≤ k0 + n) := by show _ ∧ _; have := hq.out; omega
      go_wp2
      go_ret
      exact ⟨q, rfl, hq2, hkp⟩
end Go.Proofs.Ytonnmbkfjiddnaa
