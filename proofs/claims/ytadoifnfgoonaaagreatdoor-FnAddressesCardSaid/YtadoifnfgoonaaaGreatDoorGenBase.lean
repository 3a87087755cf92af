
/- The walks of a reader of dates: a sign, an atom, digits. -/

/- Lists of texts that were handed in; the law's helpers over them. -/

/- The walks of a reader of addresses by what is left of its tokens. -/

/- The walks of a reader of addresses: what is behind a phrase. -/

/- Lists of numbers that were handed in; the law's helpers over them, and over texts. -/

/- Lists of texts and of numbers between two blocks; laws of the law's helpers over them, for the texts that tools/gen/structs.py writes. -/
import Derived.Test.YtadoifnfgoonaaaGreatDoorAdRead1
import Derived.Test.YtadoifnfgoonaaaGreatDoorAllOf
import Derived.Laws.OwnMore
import Derived.Laws.MakeOwn
import Derived.Deep.RegionWith
import Derived.OrdersHeld
import Derived.Test.YtadoifnfgoonaaaGreatDoorPhraseTests
import Derived.Deep.OwnRows
import Derived.Lib.QuietBelow
import Derived.Deep.QuietTactic
import Derived.BigQuiet
namespace Go.Proofs.YtadoifnfgoonaaaGreatDoor
open Go.RowKit Go.Lib
set_option maxRecDepth 20000 in
theorem fieldT0 (a b c : Value) (w : World) : (Instr.field 107 (.agg #[a, b, c]) 0).run Tryz.prog w = .ok a w := by first | kernel_rfl | rfl
set_option maxRecDepth 20000 in
theorem rdOver (B g n : Nat) (T : List Tk) (s : ByteArray) (q : Nat × Nat) (ill : Nat) (w : World) (h : Rd B T g s q n ill w) (hl : T.length ≤ 4000) (hs : s.size ≤ 4000) (hk : ∀ t ∈ T, t.kind ≠ 4) (hn : n = T.length) :
    Calls Tryz.prog 51 #[scp g] w fun e w' => e = .returned (.bool true) ∧ Below w.heap.size w w' := by
  have hP := rdPeek B g n T s q ill ⟨0, ⟨#[]⟩, s.size⟩ w h hl hs hk ⟨.inr ⟨hn, rfl⟩⟩
  have hV : tkV ⟨0, ⟨#[]⟩, s.size⟩ = .agg #[.int .i64 0, .string ⟨#[]⟩, .int .i64 s.size] := rfl
  rw [hV] at hP
  clear h
  have hfd := fieldT0
  go_enter Tryz.func51, Tryz.ntmps51
  go_wp2_with fail
  refine hP.mono ?_
  rintro e w1 ⟨rfl, hb⟩
  clear hP
  go_wp2_with fail
  go_ret
  exact ⟨rfl, hb⟩
set_option maxRecDepth 20000 in
theorem implIsSign (k : Nat) (x y : ByteArray) (a : Nat) (w : World) (hk : k = 5) :
    Calls Tryz.prog 84 #[.agg #[.int .i64 k, .string x, .int .i64 a], .string y] w fun e w' => e = .returned (.bool (x.toList == y.toList)) ∧ Below w.heap.size w w' := by
  subst hk
  go_enter Tryz.func84, Tryz.ntmps84
  go_wp2
  go_ret
  refine ⟨?_, (Below.refl _ _).alloc (Nat.le_refl _) _⟩
  rfl
set_option maxRecDepth 20000 in
theorem rdSignNext (B g n : Nat) (T : List Tk) (s : ByteArray) (q : Nat × Nat) (ill : Nat) (t : Tk) (y : ByteArray) (w : World) (h : Rd B T g s q n ill w) (hl : T.length ≤ 4000) (hs : s.size ≤ 4000) (hk : ∀ t ∈ T, t.kind ≠ 4) (hn : T[n]? = some t) (h5 : t.kind = 5) :
    Calls Tryz.prog 54 #[scp g, .string y] w fun e w' => e = .returned (.bool (t.text.toList == y.toList)) ∧ Below w.heap.size w w' := by
  have hlt : n < T.length := by
    by_cases hc : n < T.length
    · exact hc
    · rw [List.getElem?_eq_none (by omega)] at hn; cases hn
  have hP := rdPeek B g n T s q ill t w h hl hs hk ⟨.inl ⟨hlt, hn, by omega⟩⟩
  obtain ⟨tk, tx, ta⟩ := t
  have hV : tkV ⟨tk, tx, ta⟩ = .agg #[.int .i64 tk, .string tx, .int .i64 ta] := rfl
  rw [hV] at hP
  have HS := (show Hid _ from fun (w : World) => implIsSign tk tx y ta w h5)
  clear h hn h5
  go_enter Tryz.func54, Tryz.ntmps54
  go_wp2_with fail
  refine hP.mono ?_
  rintro e w1 ⟨rfl, hb⟩
  clear hP
  go_wp2_with fail
  refine (HS.out _).mono ?_
  rintro e w2 ⟨rfl, hb2⟩
  clear HS
  go_wp2_with fail
  go_ret
  exact ⟨rfl, hb.trans (hb2.mono hb.size)⟩
set_option maxRecDepth 20000 in
theorem rdTakeSign (B g n : Nat) (T : List Tk) (s : ByteArray) (q : Nat × Nat) (ill : Nat) (t : Tk) (y : ByteArray) (w : World) (h : Rd B T g s q n ill w) (hl : T.length ≤ 4000) (hs : s.size ≤ 4000) (hk : ∀ t ∈ T, t.kind ≠ 4) (hn : T[n]? = some t) (h5 : t.kind = 5) (hy : t.text = y) :
    Calls Tryz.prog 52 #[scp g, .string y] w fun e w' => e = .returned (.bool true) ∧ Rd B T g s q (n + 1) ill w' ∧ w.grownBy w' (some g) := by
  have hP := rdSignNext B g n T s q ill t y w h hl hs hk hn h5
  rw [show (t.text.toList == y.toList) = true from by rw [hy]; simp] at hP
  have HT := (show Hid _ from fun (w : World) h => rdTake B g n T s q ill t w h hl hs hk hn (by omega))
  have HR := (show Hid _ from h)
  clear h
  go_enter Tryz.func52, Tryz.ntmps52
  go_wp2_with fail
  refine hP.mono ?_
  rintro e w1 ⟨rfl, hb⟩
  clear hP
  go_wp2_with fail
  refine (HT.out _ (HR.out.below hb)).mono ?_
  rintro e w2 ⟨rfl, h2, g2⟩
  clear HT HR
  go_wp2_with fail
  go_ret
  exact ⟨rfl, h2, grown_trans (grown_below hb) g2⟩
end Go.Proofs.YtadoifnfgoonaaaGreatDoor
namespace Go.Proofs.YtadoifnfgoonaaaGreatDoor
open Go.RowKit Go.Lib Go.Maps
def Tx (B : Nat) (w : World) (o : Option Addr) (ps : List ByteArray) : Prop := ∀ k (h : k < ps.length), ∃ a, o = some a ∧ a.block < B ∧ w.cell? (a.add k) = some (.string ps[k])
set_option maxRecDepth 20000 in
theorem mkHid {p : Prop} (h : p) : Hid p := h
set_option maxRecDepth 20000 in
theorem Tx.below {B : Nat} {w w' : World} {o : Option Addr} {ps : List ByteArray} (h : Tx B w o ps) (hb : Below B w w') : Tx B w' o ps := by
  intro k hk
  obtain ⟨a, rfl, ha, hc⟩ := h k hk
  refine ⟨a, rfl, ha, ?_⟩
  rw [← hc]
  have e : (a.add k).block = a.block := by unfold Addr.add; split <;> rfl
  exact hb.cell (by rw [e]; exact ha)
set_option maxRecDepth 20000 in
theorem Tx.mono {B B' : Nat} {w : World} {o : Option Addr} {ps : List ByteArray} (h : Tx B w o ps) (hB : B ≤ B') : Tx B' w o ps := by
  intro k hk
  obtain ⟨a, rfl, ha, hc⟩ := h k hk
  exact ⟨a, rfl, by omega, hc⟩
set_option maxRecDepth 20000 in
theorem Tryz.info9 : (Tryz.prog.info? 9).map (fun i => (i.zero, i.size, i.bytes)) = some (some (.string ByteArray.empty), 1, 16) := by kernel_rfl
def szT : List ByteArray → Nat
  | [] => 0
  | t :: r => t.size + szT r
set_option maxRecDepth 20000 in
theorem szT_drop (F : List ByteArray) (k : Nat) (h : k < F.length) : szT (F.drop k) = F[k].size + szT (F.drop (k + 1)) := by
  rw [List.drop_eq_getElem_cons h]; rfl
set_option maxRecDepth 20000 in
theorem szT_mem : ∀ (F : List ByteArray) (t : ByteArray), t ∈ F → t.size ≤ szT F
  | [], _, h => absurd h (List.not_mem_nil)
  | a :: r, t, h => by
    rcases List.mem_cons.1 h with rfl | h
    · simp [szT]
    · have := szT_mem r t h; simp [szT]; omega
end Go.Proofs.YtadoifnfgoonaaaGreatDoor
namespace Go.Proofs.YtadoifnfgoonaaaGreatDoor
open Go.RowKit Go.Lib
/-- The tokens from n on, without their places. -/
def Kt (T : List Tk) (n : Nat) : List (Nat × ByteArray) := (T.drop n).map fun t => (t.kind, t.text)
def hdT : List (Nat × ByteArray) → Nat × ByteArray
  | [] => (0, ⟨#[]⟩)
  | p :: _ => p
/-- Few tokens, none a comment. -/
structure Ts (T : List Tk) (s : ByteArray) : Prop where
  l : T.length ≤ 4000
  z : s.size ≤ 4000
  k : ∀ t ∈ T, t.kind ≠ 4
  k0 : ∀ t ∈ T, t.kind ≠ 0
/-- The reader at block g has the tokens L before it, and has counted k boxes. -/
def Rs (B : Nat) (T : List Tk) (g : Nat) (s : ByteArray) (q : Nat × Nat) (L : List (Nat × ByteArray)) (k : Nat) (w : World) : Prop := ∃ n, Kt T n = L ∧ n ≤ T.length ∧ Rd B T g s q n k w
set_option maxRecDepth 20000 in
theorem kt_cons {T : List Tk} {n : Nat} {p : Nat × ByteArray} {r : List (Nat × ByteArray)} (h : Kt T n = p :: r) : ∃ t, T[n]? = some t ∧ (t.kind, t.text) = p ∧ Kt T (n + 1) = r ∧ n < T.length := by
  unfold Kt at h
  have hn : n < T.length := by
    by_cases hc : n < T.length
    · exact hc
    · rw [List.drop_eq_nil_of_le (by omega)] at h; cases h
  rw [List.drop_eq_getElem_cons hn, List.map_cons] at h
  obtain ⟨h1, h2⟩ := List.cons.inj h
  exact ⟨T[n], by rw [List.getElem?_eq_getElem hn], h1, h2, hn⟩
set_option maxRecDepth 20000 in
theorem kt_nil {T : List Tk} {n : Nat} (h : Kt T n = []) (hn : n ≤ T.length) : n = T.length := by
  unfold Kt at h
  have := congrArg List.length h
  simp at this
  omega
set_option maxRecDepth 20000 in
theorem kt_nx {T : List Tk} {s : ByteArray} {n : Nat} (hT : Ts T s) (hn : n ≤ T.length) : ∃ t, Nx T s n t ∧ (t.kind, t.text) = hdT (Kt T n) := by
  cases h : Kt T n with
  | nil => exact ⟨⟨0, ⟨#[]⟩, s.size⟩, ⟨.inr ⟨kt_nil h hn, rfl⟩⟩, rfl⟩
  | cons p r =>
    obtain ⟨t, h1, h2, -, h4⟩ := kt_cons h
    exact ⟨t, ⟨.inl ⟨h4, h1, hT.k0 t (List.mem_of_getElem? h1)⟩⟩, h2⟩
set_option maxRecDepth 20000 in
theorem Rs.below {B g k : Nat} {T : List Tk} {s : ByteArray} {q : Nat × Nat} {L : List (Nat × ByteArray)} {w w' : World} (h : Rs B T g s q L k w) (hb : Below w.heap.size w w') : Rs B T g s q L k w' := by
  obtain ⟨n, h1, h2, h3⟩ := h
  exact ⟨n, h1, h2, h3.below hb⟩
set_option maxRecDepth 20000 in
theorem Rs.glt {B g k : Nat} {T : List Tk} {s : ByteArray} {q : Nat × Nat} {L : List (Nat × ByteArray)} {w : World} (h : Rs B T g s q L k w) : g < w.heap.size := by
  obtain ⟨n, h1, h2, h3⟩ := h
  exact h3.glt
set_option maxRecDepth 20000 in
theorem Rs.blt {B g k : Nat} {T : List Tk} {s : ByteArray} {q : Nat × Nat} {L : List (Nat × ByteArray)} {w : World} (h : Rs B T g s q L k w) : g < B := by
  obtain ⟨n, h1, h2, h3⟩ := h
  exact h3.lt
set_option maxRecDepth 20000 in
theorem rsPeek {B g k : Nat} {T : List Tk} {s : ByteArray} {q : Nat × Nat} {L : List (Nat × ByteArray)} {w : World} (hT : Ts T s) (h : Rs B T g s q L k w) (kd : Nat) (x : ByteArray) (hx : hdT L = (kd, x)) :
    Calls Tryz.prog 82 #[scp g] w fun e w' => ∃ a : Nat, e = .returned (.agg #[.int .i64 (kd : Int), .string x, .int .i64 (a : Int)]) ∧ Below w.heap.size w w' := by
  obtain ⟨n, h1, h2, h3⟩ := h
  obtain ⟨t, ht, he⟩ := kt_nx hT h2
  rw [h1, hx] at he
  obtain ⟨rfl, rfl⟩ := Prod.mk.inj he
  refine (rdPeek B g n T s q k t w h3 hT.l hT.z hT.k ht).mono ?_
  rintro e w' ⟨rfl, hb⟩
  exact ⟨t.at_, rfl, hb⟩
set_option maxRecDepth 20000 in
theorem rsTake {B g k : Nat} {T : List Tk} {s : ByteArray} {q : Nat × Nat} {w : World} (hT : Ts T s) (kd : Nat) (x : ByteArray) (r : List (Nat × ByteArray)) (h : Rs B T g s q ((kd, x) :: r) k w) :
    Calls Tryz.prog 83 #[scp g] w fun e w' => ∃ a : Nat, e = .returned (.agg #[.int .i64 (kd : Int), .string x, .int .i64 (a : Int)]) ∧ Rs B T g s q r k w' ∧ w.grownBy w' (some g) := by
  obtain ⟨n, h1, h2, h3⟩ := h
  obtain ⟨t, ht, he, hr, hn⟩ := kt_cons h1
  obtain ⟨rfl, rfl⟩ := Prod.mk.inj he
  refine (rdTake B g n T s q k t w h3 hT.l hT.z hT.k ht (hT.k0 t (List.mem_of_getElem? ht))).mono ?_
  rintro e w' ⟨rfl, hd, hg⟩
  exact ⟨t.at_, rfl, ⟨n + 1, hr, by omega, hd⟩, hg⟩
/-- A token is this special. -/
def isSg (p : Nat × ByteArray) (y : ByteArray) : Bool := decide (p.1 = 5) && (p.2.toList == y.toList)
set_option maxRecDepth 20000 in
theorem implIsSg (kd : Nat) (x y : ByteArray) (a : Nat) (b : Bool) (w : World) (hb : isSg (kd, x) y = b) :
    Calls Tryz.prog 84 #[.agg #[.int .i64 (kd : Int), .string x, .int .i64 (a : Int)], .string y] w fun e w' => e = .returned (.bool b) ∧ Below w.heap.size w w' := by
  by_cases hk : kd = 5
  · have := implIsSign kd x y a w hk
    rw [← hb, isSg, decide_eq_true hk, Bool.true_and]
    exact this
  · obtain rfl : b = false := by rw [← hb, isSg, decide_eq_false hk, Bool.false_and]
    have h5 : ((kd : Int) == 5) = false := by simp; omega
    clear hb hk
    go_enter Tryz.func84, Tryz.ntmps84
    go_wp2
    go_ret
    exact ⟨rfl, (Below.refl _ _).alloc (Nat.le_refl _) _⟩
set_option maxRecDepth 20000 in
theorem rsSign {B g k : Nat} {T : List Tk} {s : ByteArray} {q : Nat × Nat} {L : List (Nat × ByteArray)} {w : World} (hT : Ts T s) (h : Rs B T g s q L k w) (y : ByteArray) (b : Bool) (hb : isSg (hdT L) y = b) :
    Calls Tryz.prog 54 #[scp g, .string y] w fun e w' => e = .returned (.bool b) ∧ Below w.heap.size w w' := by
  obtain ⟨kd, x, hx⟩ : ∃ kd x, hdT L = (kd, x) := ⟨_, _, rfl⟩
  rw [hx] at hb
  have hP := mkHid (rsPeek hT h kd x hx)
  have HS := mkHid (fun (a : Nat) (w : World) => implIsSg kd x y a b w hb)
  clear h hb hx
  go_enter Tryz.func54, Tryz.ntmps54
  go_wp2_with fail
  refine hP.out.mono ?_
  rintro e w1 ⟨a, rfl, hb1⟩
  go_wp2_with fail
  refine (HS.out a _).mono ?_
  rintro e w2 ⟨rfl, hb2⟩
  go_wp2_with fail
  go_ret
  exact ⟨rfl, hb1.trans (hb2.mono hb1.size)⟩
set_option maxRecDepth 20000 in
theorem rsTakeNo {B g k : Nat} {T : List Tk} {s : ByteArray} {q : Nat × Nat} {L : List (Nat × ByteArray)} {w : World} (hT : Ts T s) (h : Rs B T g s q L k w) (y : ByteArray) (hb : isSg (hdT L) y = false) :
    Calls Tryz.prog 52 #[scp g, .string y] w fun e w' => e = .returned (.bool false) ∧ Below w.heap.size w w' := by
  have hP := mkHid (rsSign hT h y false hb)
  clear h hb
  go_enter Tryz.func52, Tryz.ntmps52
  go_wp2_with fail
  refine hP.out.mono ?_
  rintro e w1 ⟨rfl, hb1⟩
  go_wp2_with fail
  go_ret
  exact ⟨rfl, hb1⟩
set_option maxRecDepth 20000 in
theorem rsTakeYes {B g k : Nat} {T : List Tk} {s : ByteArray} {q : Nat × Nat} {w : World} (hT : Ts T s) (y : ByteArray) (r : List (Nat × ByteArray)) (h : Rs B T g s q ((5, y) :: r) k w) :
    Calls Tryz.prog 52 #[scp g, .string y] w fun e w' => e = .returned (.bool true) ∧ Rs B T g s q r k w' ∧ w.grownBy w' (some g) := by
  have hP := mkHid (rsSign hT h y true (by simp [hdT, isSg]))
  have HR := mkHid h
  clear h
  go_enter Tryz.func52, Tryz.ntmps52
  go_wp2_with fail
  refine hP.out.mono ?_
  rintro e w1 ⟨rfl, hb1⟩
  have hTk := mkHid (rsTake hT 5 y r (HR.out.below hb1))
  go_wp2_with fail
  refine hTk.out.mono ?_
  rintro e w2 ⟨a, rfl, h2, g2⟩
  have H2 := mkHid h2
  clear h2
  go_wp2_with fail
  go_ret
  exact ⟨rfl, H2.out, grown_trans (grown_below hb1) g2⟩
set_option maxRecDepth 20000 in
theorem rsOver {B g k : Nat} {T : List Tk} {s : ByteArray} {q : Nat × Nat} {L : List (Nat × ByteArray)} {w : World} (hT : Ts T s) (h : Rs B T g s q L k w) (b : Bool) (hb : L.isEmpty = b) :
    Calls Tryz.prog 51 #[scp g] w fun e w' => e = .returned (.bool b) ∧ Below w.heap.size w w' := by
  obtain ⟨kd, x, hx⟩ : ∃ kd x, hdT L = (kd, x) := ⟨_, _, rfl⟩
  have hk : ((kd : Int) == 0) = b := by
    obtain ⟨n, h1, h2, h3⟩ := h
    cases L with
    | nil => cases hx; exact hb
    | cons p r =>
      obtain ⟨t, ht, he, -, -⟩ := kt_cons h1
      have := hT.k0 t (List.mem_of_getElem? ht)
      obtain rfl : p = (kd, x) := hx
      have h5 := congrArg Prod.fst he
      rw [← hb]
      simp at h5 ⊢
      omega
  have hP := mkHid (rsPeek hT h kd x hx)
  have hfd := fieldT0
  clear h hb hx
  go_enter Tryz.func51, Tryz.ntmps51
  go_wp2_with fail
  refine hP.out.mono ?_
  rintro e w1 ⟨a, rfl, hb1⟩
  go_wp2_with fail
  go_ret
  exact ⟨rfl, hb1⟩
/-- A token that can stand in a phrase. -/
def isPh (p : Nat × ByteArray) : Bool := decide (p.1 = 1) || (decide (p.1 = 2) || isSg p ⟨#[46]⟩)
set_option maxRecDepth 20000 in
theorem implIsPh (kd : Nat) (x : ByteArray) (a : Nat) (b : Bool) (w : World) (hb : isPh (kd, x) = b) :
    Calls Tryz.prog 106 #[.agg #[.int .i64 (kd : Int), .string x, .int .i64 (a : Int)]] w fun e w' => e = .returned (.bool b) ∧ Below w.heap.size w w' := by
  have hA : ∀ ob, Below w.heap.size w (w.alloc ob) := fun ob => (Below.refl _ _).alloc (Nat.le_refl _) _
  by_cases h1 : kd = 1
  · obtain rfl : b = true := by rw [← hb, isPh, decide_eq_true h1, Bool.true_or]
    have e1 : ((kd : Int) == 1) = true := by simp; omega
    clear hb h1
    go_enter Tryz.func106, Tryz.ntmps106
    go_wp2
    go_ret
    exact ⟨rfl, hA _⟩
  · have e1 : ((kd : Int) == 1) = false := by simp; omega
    by_cases h2 : kd = 2
    · obtain rfl : b = true := by rw [← hb, isPh, decide_eq_true h2, Bool.true_or, Bool.or_true]
      have e2 : ((kd : Int) == 2) = true := by simp; omega
      clear hb h1 h2
      go_enter Tryz.func106, Tryz.ntmps106
      go_wp2
      go_ret
      exact ⟨rfl, hA _⟩
    · have e2 : ((kd : Int) == 2) = false := by simp; omega
      have e3 : isSg (kd, x) ⟨#[46]⟩ = b := by rw [← hb, isPh, decide_eq_false h1, decide_eq_false h2, Bool.false_or, Bool.false_or]
      have cS := mkHid (fun w => implIsSg kd x ⟨#[46]⟩ a b w e3)
      clear hb h1 h2 e3
      go_enter Tryz.func106, Tryz.ntmps106
      go_wp2_with fail
      refine (cS.out _).mono ?_
      rintro e w1 ⟨rfl, hb1⟩
      have hb2 := (hA (.cells #[.int .i64 (kd : Int), .string x, .int .i64 (a : Int)] 107)).trans (hb1.mono (by simp))
      go_wp2
      go_ret
      exact ⟨rfl, hb2⟩
end Go.Proofs.YtadoifnfgoonaaaGreatDoor
namespace Go.Proofs.YtadoifnfgoonaaaGreatDoor
open Go.RowKit Go.Lib
set_option maxRecDepth 20000 in
theorem kt_at {T : List Tk} {s : ByteArray} {n : Nat} (hT : Ts T s) (hn : n ≤ T.length) (kd : Nat) (x : ByteArray) (hx : hdT (Kt T n) = (kd, x)) : ∃ a : Nat, Nx T s n ⟨kd, x, a⟩ := by
  obtain ⟨t, ht, he⟩ := kt_nx hT hn
  rw [hx] at he
  obtain ⟨rfl, rfl⟩ := Prod.mk.inj he
  exact ⟨t.at_, ht⟩
set_option maxRecDepth 20000 in
theorem kt_drop {T : List Tk} : ∀ (P L : List (Nat × ByteArray)) (n : Nat), Kt T n = P ++ L → n ≤ T.length → Kt T (n + P.length) = L ∧ n + P.length ≤ T.length
  | [], _, _, h, hn => ⟨h, hn⟩
  | p :: P, L, n, h, hn => by
    obtain ⟨t, -, -, h3, h4⟩ := kt_cons h
    have := kt_drop P L (n + 1) h3 (by omega)
    rw [List.length_cons, show n + (P.length + 1) = n + 1 + P.length by omega]
    exact this
set_option maxRecDepth 20000 in
theorem tok_cellsA {w : World} {g : Nat} {a : Int} {t : ByteArray} {b : Int} {ty : TypeId} {z : Nat × Nat} (h : w.heap[g]? = some (.cells #[.int .i64 a, .string t, .int .i64 b] ty z)) :
    w.cell? ⟨g, 0, none⟩ = some (.int .i64 a) ∧ w.cell? ⟨g, 1, none⟩ = some (.string t) ∧ w.cell? ⟨g, 2, none⟩ = some (.int .i64 b) := by
  refine ⟨?_, ?_, ?_⟩ <;> simp [World.cell?, h]
set_option maxRecDepth 20000 in
set_option maxHeartbeats 8000000 in
/-- behindPhrase: the tokens P can stand in a phrase, the one behind them not. -/
theorem rsBehind {B g k : Nat} {T : List Tk} {s : ByteArray} {q : Nat × Nat} {w : World} (hT : Ts T s) (P L : List (Nat × ByteArray)) (h : Rs B T g s q (P ++ L) k w) (hP : P.all isPh = true) (kd : Nat) (x : ByteArray) (hx : hdT L = (kd, x)) (hL : isPh (kd, x) = false) :
    Calls Tryz.prog 85 #[scp g] w fun e w' => ∃ a : Nat, e = .returned (.agg #[.int .i64 (kd : Int), .string x, .int .i64 (a : Int)]) ∧ Below w.heap.size w w' := by
  obtain ⟨n, h1, h2, h3⟩ := h
  obtain ⟨hm, hml⟩ := kt_drop P L n h1 h2
  obtain ⟨W, hW⟩ : ∃ W, W = w.alloc (.cells #[.int .i64 0, .string ⟨#[]⟩, .int .i64 0] 107) := ⟨_, rfl⟩
  have hbW : Below w.heap.size w W := by rw [hW]; exact (Below.refl _ _).alloc (Nat.le_refl _) _
  have hr0 : W.heap[w.heap.size]? = some (.cells #[.int .i64 0, .string ⟨#[]⟩, .int .i64 0] 107 (0, 0)) := by rw [hW]; exact hp_alloc w _
  have hl4 := hT.l
  have hgB := h3.lt
  have HR := mkHid (h3.below hbW)
  have HR0 := mkHid hr0
  have c4 : W.cell? ⟨g, 4, none⟩ = some (.int .i64 (n : Int)) := by
    obtain ⟨d1, -, -⟩ := HR.out
    exact d1.cells.2.2.1
  have HS0 : Hid (W.drew.cell? ⟨g, 4, none⟩ = some (.int .i64 (n : Int))) := mkHid c4
  have hbD : Below W.heap.size W W.drew := (Below.refl W.heap.size W).drew
  have HRD := mkHid (HR.out.below hbD)
  have cP := mkHid (rdPast B g n T s q k W.drew HRD.out hT.l h2 hT.k)
  have Hbw := mkHid (hbW.trans (hbD.mono hbW.size))
  have H1 := mkHid h1
  have HP := mkHid hP
  have Hm := mkHid hm
  have hrD : W.drew.heap[w.heap.size]? = some (.cells #[.int .i64 0, .string ⟨#[]⟩, .int .i64 0] 107 (0, 0)) := hr0
  have HrD := mkHid hrD
  have HW := mkHid hW
  have Hx := mkHid hx
  have HL := mkHid hL
  clear h1 h3 hbW hr0 c4 hP hm hW hx hL hrD hbD
  go_enter Tryz.func85, Tryz.ntmps85
  go_wp2
  rw [← HW.out]
  refine wp_region_held (S := fun w' => w'.cell? ⟨g, 4, none⟩ = some (.int .i64 (n : Int))) (by kernel_rfl) ?_
  refine wpAnyH_take (i := 0) (v := scp g) rfl (by kernel_rfl) (by kernel_rfl) (by kernel_rfl) (fun _ _ _ h => h) (Or.inl ⟨by rfl, ?_⟩) HS0.out ?_
  · intro w s0
    go_simp
    all_goals first | done | (intro h; exfalso; omega) | omega
  go_simp
  refine wpAnyH_take (i := 1) (v := scp g) rfl (by kernel_rfl) (by kernel_rfl) (by kernel_rfl) (fun _ _ _ h => h) (Or.inl ⟨by rfl, ?_⟩) HS0.out ?_
  · intro w s0
    go_simp
    all_goals first | done | (intro h; exfalso; omega) | omega
  go_simp
  refine wpAnyH_take (i := 2) (v := scp g) rfl (by kernel_rfl) (by kernel_rfl) (by kernel_rfl) (fun _ _ _ h => h) (Or.inl ⟨by rfl, ?_⟩) HS0.out ?_
  · intro w s0
    go_simp
    all_goals first | done | (intro h; exfalso; omega) | omega
  go_simp
  refine wpAnyH_take (i := 3) (v := scp g) rfl (by kernel_rfl) (by kernel_rfl) (by kernel_rfl) (fun _ _ _ h => h) (Or.inl ⟨by rfl, ?_⟩) HS0.out ?_
  · intro w s0
    go_simp
    all_goals first | done | (intro h; exfalso; omega) | omega
  go_simp
  refine wpAnyH_take (i := 4) (v := scp g) rfl (by kernel_rfl) (by kernel_rfl) (by kernel_rfl) (fun _ _ _ h => h) (Or.inl ⟨by rfl, ?_⟩) HS0.out ?_
  · intro w s0
    go_simp
    all_goals first | done | (intro h; exfalso; omega) | omega
  go_simp
  refine wpAnyH_take (i := 5) (v := scp g) rfl (by kernel_rfl) (by kernel_rfl) (by kernel_rfl) (fun _ _ _ h => h) (Or.inl ⟨by rfl, ?_⟩) HS0.out ?_
  · intro w s0
    go_simp
    all_goals first | done | (intro h; exfalso; omega) | omega
  go_simp
  refine wpAnyH_take (i := 6) (v := .pointer (some ⟨g, 4, none⟩)) rfl (by kernel_rfl) (by kernel_rfl) (by kernel_rfl) (fun _ _ _ h => h) (Or.inl ⟨by rfl, ?_⟩) HS0.out ?_
  · intro w s0
    go_simp
    all_goals first | done | (intro h; exfalso; omega) | omega
  go_simp
  refine wpAnyH_take (i := 7) (v := .int .i64 (n : Int)) rfl (by kernel_rfl) (by kernel_rfl) (by kernel_rfl) (fun _ _ _ h => h) (Or.inl ⟨by rfl, ?_⟩) HS0.out ?_
  · intro w s0
    go_simp
    all_goals first | done | (intro h; exfalso; omega) | omega
  go_simp
  refine wpAnyH_all (rs := [8]) (by kernel_rfl) (by simp) ?_
  intro j hj
  simp only [List.mem_cons, List.not_mem_nil, or_false] at hj
  subst hj
  refine wpOp_step rfl (fun K hK => ?_)
  go_simp
  refine cP.out.mono ?_
  rintro e w1 ⟨rfl, hw1⟩
  subst hw1
  refine hK _ _ ⟨HS0.out, ?_⟩
  clear hK K
  go_simp
  refine wpAnyH_take (i := 9) (v := .int .i64 (n : Int)) rfl (by kernel_rfl) (by kernel_rfl) (by kernel_rfl) (fun _ _ _ h => h) (Or.inl ⟨by rfl, ?_⟩) HS0.out ?_
  · intro w s0
    go_simp
    all_goals first | done | (intro h; exfalso; omega) | omega
  go_simp
  refine wpAnyH_done (by kernel_rfl) ?_ _
  clear cP HS0 HR HR0
  go_wp2
  go_loopw [3] (fun v wr => ∃ j : Nat, v = .int .i64 ((n + j : Nat) : Int) ∧ j ≤ P.length ∧ Hid (Below w.heap.size w wr) ∧ Hid (Rd B T g s q n k wr) ∧ Hid (wr.heap[w.heap.size]? = some (.cells #[.int .i64 0, .string ⟨#[]⟩, .int .i64 0] 107 (0, 0)))) (fun v _ => n + P.length - (Lib.intOf v).toNat)
  case atStart => exact ⟨0, rfl, Nat.zero_le _, Hbw, HRD, HrD⟩
  case round =>
    clear Hbw HRD HrD HW
    obtain ⟨j, rfl, hj, Hb, Hr, Hz⟩ := hrel
    have cP := mkHid (fun (W : World) (hR : Rd B T g s q n k W) (hle : n + (j + 1) ≤ T.length) => rdPast B g (n + (j + 1)) T s q k W hR hT.l hle hT.k)
    have hw : IntKind.i64.wrap (((n + j : Nat) : Int) + 1) = ((n + (j + 1) : Nat) : Int) := by
      unfold IntKind.wrap
      simp [IntKind.bits, IntKind.signed]
      omega
    by_cases hlt : j < P.length
    · obtain ⟨kj, xj, hkj⟩ : ∃ a b, P[j] = (a, b) := ⟨_, _, rfl⟩
      have hPj : isPh (kj, xj) = true := by rw [← hkj]; exact List.all_eq_true.1 HP.out _ (List.getElem_mem hlt)
      have hKj : hdT (Kt T (n + j)) = (kj, xj) := by
        have h5 := (kt_drop (P.take j) (P.drop j ++ L) n (by rw [← List.append_assoc, List.take_append_drop]; exact H1.out) h2).1
        rw [List.length_take, Nat.min_eq_left (by omega), List.drop_eq_getElem_cons hlt, hkj] at h5
        rw [h5]
        rfl
      obtain ⟨aj, hNx⟩ := kt_at hT (n := n + j) (by omega) kj xj hKj
      have cT := mkHid (rdTokenAt B g (n + j) T s q k ⟨kj, xj, aj⟩ wr Hr.out hT.l hT.z hNx)
      have cI := mkHid (fun w => implIsPh kj xj aj true w hPj)
      rw [show tkV ⟨kj, xj, aj⟩ = .agg #[.int .i64 (kj : Int), .string xj, .int .i64 (aj : Int)] from rfl] at cT
      clear hkj hPj hKj hNx
      go_wp2_with fail
      refine cT.out.mono ?_
      rintro e w2 ⟨rfl, hb2⟩
      have Hr2 := mkHid (Hr.out.below hb2)
      have Hb2 := mkHid (Hb.out.trans (hb2.mono Hb.out.size))
      have Hz2 : Hid (w2.heap[w.heap.size]? = some (.cells #[.int .i64 0, .string ⟨#[]⟩, .int .i64 0] 107 (0, 0))) := mkHid ((hb2.block _ (hp_lt Hz.out)).trans Hz.out)
      clear hb2 cT Hr Hb Hz
      go_wp2_with fail
      refine (cI.out _).mono ?_
      rintro e w3 ⟨rfl, hb3⟩
      have Hr3 := mkHid (Hr2.out.below hb3)
      have Hb3 := mkHid (Hb2.out.trans (hb3.mono Hb2.out.size))
      have Hz3 : Hid (w3.heap[w.heap.size]? = some (.cells #[.int .i64 0, .string ⟨#[]⟩, .int .i64 0] 107 (0, 0))) := mkHid ((hb3.block _ (hp_lt Hz2.out)).trans Hz2.out)
      have cP3 := mkHid (cP.out w3 Hr3.out (by omega))
      clear hb3 cI Hr2 Hb2 Hz2 cP
      go_wp2_with fail
      refine cP3.out.mono ?_
      rintro e w4 ⟨rfl, hw4⟩
      subst hw4
      clear cP3
      go_wp2
      refine ⟨⟨j + 1, by congr 1, by omega, Hb3, Hr3, Hz3⟩, ?_⟩
      simp only [Lib.intOf]
      omega
    · obtain rfl : j = P.length := by omega
      obtain ⟨aj, hNx⟩ := kt_at hT hml kd x (by rw [Hm.out]; exact Hx.out)
      have cT := mkHid (fun (W : World) (hR : Rd B T g s q n k W) => rdTokenAt B g (n + P.length) T s q k ⟨kd, x, aj⟩ W hR hT.l hT.z hNx)
      have cI := mkHid (fun w => implIsPh kd x aj false w HL.out)
      rw [show tkV ⟨kd, x, aj⟩ = .agg #[.int .i64 (kd : Int), .string x, .int .i64 (aj : Int)] from rfl] at cT
      have cT1 := mkHid (cT.out wr Hr.out)
      clear hNx cP hlt hj
      go_wp2_with fail
      refine cT1.out.mono ?_
      rintro e w2 ⟨rfl, hb2⟩
      have Hr2 := mkHid (Hr.out.below hb2)
      have Hb2 := mkHid (Hb.out.trans (hb2.mono Hb.out.size))
      have Hz2 : Hid (w2.heap[w.heap.size]? = some (.cells #[.int .i64 0, .string ⟨#[]⟩, .int .i64 0] 107 (0, 0))) := mkHid ((hb2.block _ (hp_lt Hz.out)).trans Hz.out)
      clear hb2 cT1 Hr Hb Hz
      go_wp2_with fail
      refine (cI.out _).mono ?_
      rintro e w3 ⟨rfl, hb3⟩
      have Hr3 := mkHid (Hr2.out.below hb3)
      have Hb3 := mkHid (Hb2.out.trans (hb3.mono Hb2.out.size))
      have Hz3 : Hid (w3.heap[w.heap.size]? = some (.cells #[.int .i64 0, .string ⟨#[]⟩, .int .i64 0] 107 (0, 0))) := mkHid ((hb3.block _ (hp_lt Hz2.out)).trans Hz2.out)
      have cT3 := mkHid (cT.out w3 Hr3.out)
      clear hb3 cI Hr2 Hb2 Hz2 cT
      go_wp2_with fail
      refine cT3.out.mono ?_
      rintro e w4 ⟨rfl, hb4⟩
      have Hz4 : Hid (w4.heap[w.heap.size]? = some (.cells #[.int .i64 0, .string ⟨#[]⟩, .int .i64 0] 107 (0, 0))) := mkHid ((hb4.block _ (hp_lt Hz3.out)).trans Hz3.out)
      have Hb4 := mkHid (Hb3.out.trans (hb4.mono Hb3.out.size))
      clear hb4 cT3 Hb3 Hz3 Hr3
      go_wp2_with (first | (refine wpL_store_row rfl 107 _ _ rfl w.heap.size #[.int .i64 (kd : Int), .string x, .int .i64 (aj : Int)] rfl rfl 107 _ Hz4.out (by kernel_rfl) rfl (by simp [Value.oneCell']) ?_) | go_in)
      refine bodyPost_ret (v := .agg #[.int .i64 (kd : Int), .string x, .int .i64 (aj : Int)]) (results_cell_row Tryz.results85 _ _ w.heap.size 107 _ (0, 0) _ rfl (setRow_heap _ _ _ _ _ _ Hz4.out) Tryz.underlying107 rfl (by kernel_rfl)) rfl ?_
      exact ⟨aj, rfl, Hb4.out.grown (grown_setRow _ _ _) Hb4.out.size (fun j hj => by cases hj; exact Nat.le_refl _)⟩
end Go.Proofs.YtadoifnfgoonaaaGreatDoor
namespace Go.Proofs.YtadoifnfgoonaaaGreatDoor
open Go.RowKit Go.Lib Go.Maps
/-- The slice of numbers at o, in blocks below B. -/
def Ints (B : Nat) (w : World) (o : Option Addr) (ps : List Int) : Prop := ∀ k (h : k < ps.length), ∃ a, o = some a ∧ a.block < B ∧ w.cell? (a.add k) = some (.int .i64 ps[k])
set_option maxRecDepth 20000 in
theorem Ints.below {B : Nat} {w w' : World} {o : Option Addr} {ps : List Int} (h : Ints B w o ps) (hb : Below B w w') : Ints B w' o ps := by
  intro k hk
  obtain ⟨a, rfl, ha, hc⟩ := h k hk
  refine ⟨a, rfl, ha, ?_⟩
  rw [← hc]
  have e : (a.add k).block = a.block := by unfold Addr.add; split <;> rfl
  exact hb.cell (by rw [e]; exact ha)
set_option maxRecDepth 20000 in
theorem Ints.mono {B B' : Nat} {w : World} {o : Option Addr} {ps : List Int} (h : Ints B w o ps) (hB : B ≤ B') : Ints B' w o ps := by
  intro k hk
  obtain ⟨a, rfl, ha, hc⟩ := h k hk
  exact ⟨a, rfl, by omega, hc⟩
set_option maxRecDepth 20000 in
theorem Tryz.info2 : (Tryz.prog.info? 2).map (fun i => (i.zero, i.size, i.bytes)) = some (some (.int .i64 0), 1, 8) := by kernel_rfl
end Go.Proofs.YtadoifnfgoonaaaGreatDoor
namespace Go.Proofs.YtadoifnfgoonaaaGreatDoor
open Go.RowKit Go.Lib Go.Maps
set_option maxRecDepth 20000 in
theorem add_blockG (a : Addr) (n : Nat) : (a.add n).block = a.block := by unfold Addr.add; split <;> rfl
/-- The blocks from lo on and below hi are the same. -/
def Same (lo hi : Nat) (w w' : World) : Prop := ∀ k, lo ≤ k → k < hi → w'.heap[k]? = w.heap[k]?
set_option maxRecDepth 20000 in
theorem Same.cell {lo hi : Nat} {w w' : World} (h : Same lo hi w w') {p : Addr} (h1 : lo ≤ p.block) (h2 : p.block < hi) : w'.cell? p = w.cell? p := World.cell?_of_block (w := w) (h p.block h1 h2)
set_option maxRecDepth 20000 in
theorem Same.of_below {lo hi B : Nat} {w w' : World} (h : Below B w w') (hB : hi ≤ B) : Same lo hi w w' := fun k _ h2 => h.block k (Nat.lt_of_lt_of_le h2 hB)
set_option maxRecDepth 20000 in
theorem Same.gr {lo hi g : Nat} {w w' : World} (h : w.grownBy w' (some g)) (hg : g < lo) (hh : hi ≤ w.heap.size) : Same lo hi w w' := fun k h1 h2 => h.block k (Nat.lt_of_lt_of_le h2 hh) (by intro e; cases e; omega)
set_option maxRecDepth 20000 in
theorem grG_trans {a b c : World} {r : Option Nat} (h : a.grownBy b r) (k : b.grownBy c r) : a.grownBy c r :=
  ⟨k.os.trans h.os, k.tape.trans h.tape, k.output.trans h.output, Nat.le_trans h.size k.size, fun i hi hr => (k.block i (Nat.lt_of_lt_of_le hi h.size) hr).trans (h.block i hi hr)⟩
set_option maxRecDepth 20000 in
theorem hp_setG (w : World) (g j k : Nat) (v : Value) (h : g ≠ k) : (w.setCell ⟨g, j, none⟩ v).heap[k]? = w.heap[k]? := by
  simp [World.setCell, Array.getElem?_modify, h]
set_option maxRecDepth 20000 in
theorem grG_set (w : World) (g j : Nat) (v : Value) : w.grownBy (w.setCell ⟨g, j, none⟩ v) (some g) :=
  ⟨rfl, rfl, rfl, by simp [World.setCell], fun k _ hr => hp_setG _ _ _ _ _ (fun e => hr (by rw [e]))⟩
/-- All blocks from lo on are cells, and none of them is frozen. -/
def Soft (lo : Nat) (w : World) : Prop := ∀ k, lo ≤ k → k < w.heap.size → ∃ cs t, w.heap[k]? = some (.cells cs t (0, 0))
set_option maxRecDepth 20000 in
theorem Soft.refl (w : World) : Soft w.heap.size w := fun k h1 h2 => by omega
set_option maxRecDepth 20000 in
theorem Soft.alloc {lo : Nat} {w : World} (h : Soft lo w) (cs : Array Value) (t : TypeId) : Soft lo (w.alloc (.cells cs t)) := by
  intro k h1 h2
  by_cases hk : k < w.heap.size
  · rw [heap_alloc_old _ _ _ hk]
    exact h k h1 hk
  · rw [World.size_alloc] at h2
    have : k = w.heap.size := by omega
    rw [this]
    exact ⟨cs, t, heap_alloc_at _ _⟩
set_option maxRecDepth 20000 in
theorem Soft.set {lo : Nat} {w : World} (h : Soft lo w) (g j : Nat) (v : Value) : Soft lo (w.setCell ⟨g, j, none⟩ v) := by
  intro k h1 h2
  have h3 : k < w.heap.size := by simpa [World.setCell] using h2
  obtain ⟨cs, t, e⟩ := h k h1 h3
  by_cases hg : g = k
  · subst hg
    exact ⟨_, t, by simp [World.setCell, Array.getElem?_modify, e]; rfl⟩
  · rw [hp_setG _ _ _ _ _ hg]
    exact ⟨cs, t, e⟩
set_option maxRecDepth 20000 in
theorem Soft.setRow {lo : Nat} {w : World} (h : Soft lo w) (g : Nat) (cs : Array Value) : Soft lo (w.setRow g cs) := by
  intro k h1 h2
  have h3 : k < w.heap.size := by simpa using h2
  obtain ⟨c0, t, e⟩ := h k h1 h3
  by_cases hg : k = g
  · subst hg
    exact ⟨cs, t, setRow_heap _ _ _ _ _ _ e⟩
  · rw [setRow_other w g k cs hg]
    exact ⟨c0, t, e⟩
set_option maxRecDepth 20000 in
theorem Soft.call {lo : Nat} {w w' : World} (h : Soft lo w) (hb : Below w.heap.size w w') (h' : Soft w.heap.size w') : Soft lo w' := by
  intro k h1 h2
  by_cases hk : k < w.heap.size
  · rw [hb.block k hk]
    exact h k h1 hk
  · exact h' k (by omega) h2
set_option maxRecDepth 20000 in
theorem three_blocks {w V : World} {G : Nat} {o1 o2 o3 : Obj} (hG : w.heap.size = G) (hV : V = ((w.alloc o1).alloc o2).alloc o3) : Below G w V ∧ G + 3 ≤ V.heap.size ∧ V.heap[G]? = some o1 ∧ V.heap[G + 1]? = some o2 ∧ V.heap[G + 1 + 1]? = some o3 := by
  subst hV hG
  refine ⟨(((Below.refl _ _).alloc (Nat.le_refl _) _).alloc (by simp) _).alloc (by simp; omega) _, by simp, ?_, ?_, ?_⟩
  · rw [heap_alloc_old _ _ _ (by simp; omega), heap_alloc_old _ _ _ (by simp)]
    exact heap_alloc_at _ _
  · rw [heap_alloc_old _ _ _ (by simp)]
    have := heap_alloc_at (w.alloc o1) o2
    rw [World.size_alloc] at this
    exact this
  · have := heap_alloc_at ((w.alloc o1).alloc o2) o3
    rw [World.size_alloc, World.size_alloc] at this
    exact this
set_option maxRecDepth 20000 in
theorem two_blocks {w V : World} {o1 o2 : Obj} (hV : V = (w.alloc o1).alloc o2) : Below w.heap.size w V ∧ w.heap.size + 2 ≤ V.heap.size ∧ V.heap[w.heap.size]? = some o1 ∧ V.heap[w.heap.size + 1]? = some o2 := by
  subst hV
  refine ⟨((Below.refl _ _).alloc (Nat.le_refl _) _).alloc (by simp) _, by simp, ?_, ?_⟩
  · rw [heap_alloc_old _ _ _ (by simp)]
    exact heap_alloc_at _ _
  · have := heap_alloc_at (w.alloc o1) o2
    rw [World.size_alloc] at this
    exact this
set_option maxRecDepth 20000 in
theorem prod_le {n b : Nat} (h : n ≤ 1048576) (hb : b ≤ 400) : n * b ≤ 140737488351232 := Nat.le_trans (Nat.mul_le_mul h hb) (by decide)
def TxL (lo hi : Nat) (w : World) (o : Option Addr) (F : List ByteArray) : Prop := ∀ i (h : i < F.length), ∃ a, o = some a ∧ lo ≤ a.block ∧ a.block < hi ∧ w.cell? (a.add i) = some (.string F[i])
def InL (lo hi : Nat) (w : World) (o : Option Addr) (F : List Int) : Prop := ∀ i (h : i < F.length), ∃ a, o = some a ∧ lo ≤ a.block ∧ a.block < hi ∧ w.cell? (a.add i) = some (.int .i64 F[i])
set_option maxRecDepth 20000 in
theorem TxL.same {lo hi : Nat} {w w' : World} {o : Option Addr} {F : List ByteArray} (h : TxL lo hi w o F) (hs : Same lo hi w w') : TxL lo hi w' o F := by
  intro i hi
  obtain ⟨a, ho, h1, h2, h3⟩ := h i hi
  exact ⟨a, ho, h1, h2, (hs.cell (by rw [add_blockG]; exact h1) (by rw [add_blockG]; exact h2)).trans h3⟩
set_option maxRecDepth 20000 in
theorem InL.same {lo hi : Nat} {w w' : World} {o : Option Addr} {F : List Int} (h : InL lo hi w o F) (hs : Same lo hi w w') : InL lo hi w' o F := by
  intro i hi
  obtain ⟨a, ho, h1, h2, h3⟩ := h i hi
  exact ⟨a, ho, h1, h2, (hs.cell (by rw [add_blockG]; exact h1) (by rw [add_blockG]; exact h2)).trans h3⟩
set_option maxRecDepth 20000 in
theorem TxL.mono {lo lo' hi hi' : Nat} {w : World} {o : Option Addr} {F : List ByteArray} (h : TxL lo hi w o F) (hl : lo' ≤ lo) (hh : hi ≤ hi') : TxL lo' hi' w o F := by
  intro i hi
  obtain ⟨a, ho, h1, h2, h3⟩ := h i hi
  exact ⟨a, ho, Nat.le_trans hl h1, Nat.lt_of_lt_of_le h2 hh, h3⟩
set_option maxRecDepth 20000 in
theorem InL.mono {lo lo' hi hi' : Nat} {w : World} {o : Option Addr} {F : List Int} (h : InL lo hi w o F) (hl : lo' ≤ lo) (hh : hi ≤ hi') : InL lo' hi' w o F := by
  intro i hi
  obtain ⟨a, ho, h1, h2, h3⟩ := h i hi
  exact ⟨a, ho, Nat.le_trans hl h1, Nat.lt_of_lt_of_le h2 hh, h3⟩
set_option maxRecDepth 20000 in
theorem TxL.below {lo hi B : Nat} {w w' : World} {o : Option Addr} {F : List ByteArray} (h : TxL lo hi w o F) (hb : Below B w w') (hB : hi ≤ B) : TxL lo hi w' o F := h.same (Same.of_below hb hB)
set_option maxRecDepth 20000 in
theorem InL.below {lo hi B : Nat} {w w' : World} {o : Option Addr} {F : List Int} (h : InL lo hi w o F) (hb : Below B w w') (hB : hi ≤ B) : InL lo hi w' o F := h.same (Same.of_below hb hB)
set_option maxRecDepth 20000 in
theorem TxL.tx {lo hi : Nat} {w : World} {o : Option Addr} {F : List ByteArray} (h : TxL lo hi w o F) : Tx hi w o F := fun i hi => let ⟨a, ho, _, h2, h3⟩ := h i hi; ⟨a, ho, h2, h3⟩
set_option maxRecDepth 20000 in
theorem InL.ints {lo hi : Nat} {w : World} {o : Option Addr} {F : List Int} (h : InL lo hi w o F) : Ints hi w o F := fun i hi => let ⟨a, ho, _, h2, h3⟩ := h i hi; ⟨a, ho, h2, h3⟩
end Go.Proofs.YtadoifnfgoonaaaGreatDoor
