
/- Encode, the specification's side. -/

/- Lowered letters: plain, and the walks of the two. -/

/- Patterns with stars and points: plain. -/
import Derived.Test.YtbppdfjigcelkaaGreatDoorEncForm
import Derived.Test.YtbppdfjigcelkaaGreatDoorEncLoop
import Derived.Test.YtbppdfjigcelkaaGreatDoorAnyPhase
import Derived.Laws.IdiomStrings
import Derived.Lib.UnsafeStr
import Derived.WalkSmall
namespace Go.Proofs.YtbppdfjigcelkaaGreatDoor
open Go.RowKit Go.Lib Go.Maps
set_option maxRecDepth 20000 in
/-- An append of bytes that lie in a slice of their own. -/
theorem wp_appo {P : Program} {W w : World} {ops : Array Oper} {rest : List Oper} {o : Oper} {a : Act} {Q : Exit → Act → World → Prop} (hgd : o.guard = none) (s x : Operand) (t : TypeId)
    (ho : o.op = .call { callee := .builtin .append, args := #[s, x], argTypes := #[t, t] })
    (i : TypeInfo) (ht : P.underlying t = some (.slice 5)) (hi : P.info? 5 = some i) (hz : i.zero = some (.int .u8 0)) (hsize : i.size = 1) (hby : i.bytes = 1)
    (B : Nat) (v : Value) (p : List UInt8) (hs : a.eval s = v) (hown : Own B v p w) (B2 : Nat) (v2 : Value) (news : List UInt8) (hx : a.eval x = v2) (hown2 : Own B2 v2 news w) (hne : news ≠ [])
    (hlen : p.length + news.length ≤ 140737488355328) (hB : B ≤ W.heap.size) (hb : Below B W w)
    (h : ∀ v' w', Own B v' (p ++ news) w' → Below B W w' → wpList P ops Q rest (a.put o.dst v') w') : wpList P ops Q (o :: rest) a w := by
  have hsz := hb.size
  rcases hown2.form with ⟨-, h0⟩ | ⟨g, cap, rfl⟩
  · exact absurd h0 hne
  refine wpList_append_own _ hgd s x t ho B 5 i (.int .u8 0) 1 1 ht hi hz hsize hby rfl (by decide) v p.length (byteCells p) hs hown ⟨g, 0, none⟩ news.length cap (byteCells news) hx
    (by rw [byteCells_length, Nat.mul_one]) ?_ ?_ (by unfold maxLen; omega) (by omega) (by omega) ?_
  · intro j u hj
    have hj2 : j < news.length := by
      have := (List.getElem?_eq_some_iff.1 hj).1
      simpa [byteCells_length] using this
    rw [add_off, hown2.cell j hj2]
    simpa [byteCells, hj2] using hj
  · intro u hu
    simp only [byteCells, List.mem_map] at hu
    obtain ⟨b, -, rfl⟩ := hu
    rfl
  · intro v' w' h1 h2 _
    refine h v' w' ?_ ?_
    · unfold Own
      rw [byteCells_append, List.length_append]
      exact h1
    · exact hb.grown h2 (by omega) (fun k hk => (World.ownsRow.lt hown k hk).1)
set_option maxRecDepth 20000 in
theorem Own.keepb {B : Nat} {v : Value} {p : List UInt8} {w w' : World} (h : Own B v p w) (hb : Below w.heap.size w w') : Own B v p w' := by
  obtain ⟨h1, h2⟩ := h
  refine ⟨h1, ?_⟩
  rcases h2 with h2 | ⟨g, cap, cur, e1, e2, e3, e4⟩
  · exact .inl h2
  · refine .inr ⟨g, cap, cur, e1, e2, ?_, e4⟩
    rw [hb.block g (heap_lt e3)]
    exact e3
set_option maxRecDepth 20000 in
/-- Encode's way out, the specification's. -/
theorem retS (w wr : World) (tmps : Array Value) (cs : Array Value) (p0 : Nat) (hp0 : Tryz.f5.results = #[.cell p0 27]) (hp : tmps.getD p0 undef = .pointer (some ⟨w.heap.size, 0, none⟩)) {old : Array Value} (hres : wr.heap[w.heap.size]? = some (.cells old 27 (0, 0))) (hb : Below w.heap.size w wr) (h2 : cs.size = 2 := by rfl) :
    bodyPost Tryz.prog Tryz.f5 (fun e w' => e = .returned (.agg cs) ∧ Below w.heap.size w w') Exit.ret { tmps := tmps, defers := [] } (wr.setRow w.heap.size cs) := by
  refine bodyPost_ret (v := .agg cs) (results_cell_row hp0 _ _ w.heap.size 27 _ (0, 0) _ hp (setRow_heap _ _ _ _ _ _ hres) Tryz.underlying27 rfl ?_) rfl ⟨rfl, hb.grown (grown_setRow _ _ _) hb.size (fun j hj => by cases hj; exact Nat.le_refl _)⟩
  rw [h2]
  kernel_rfl
set_option maxRecDepth 20000 in
set_option maxHeartbeats 1000000 in
theorem specEncode (set : Int) (o : Option Addr) (ps : List Int) (cap : Nat) (w : World) (hF : PtsAt w.heap.size w o ps) (hlen : ps.length ≤ 1048576) :
    Calls Tryz.prog 5 #[.int .i64 set, .slice o ps.length cap] w fun e w' => e = .returned (encV (encA set ps)) ∧ Below w.heap.size w w' := by
  unfold encA
  have hres0 : (w.alloc (.cells #[.bool false, .string ⟨#[]⟩] 27)).heap[w.heap.size]? = some (.cells #[.bool false, .string ⟨#[]⟩] 27 (0, 0)) := heap_alloc_at _ _
  have hbel0 : Below w.heap.size w (w.alloc (.cells #[.bool false, .string ⟨#[]⟩] 27)) := (Below.refl _ _).alloc (Nat.le_refl _) _
  by_cases hl : 100000 < ps.length
  · rw [if_pos (by omega)]
    clear hF
    go_enter Tryz.func5, Tryz.ntmps5
    go_wp2_with (first | (refine wpL_store_row rfl 27 _ _ rfl w.heap.size #[.bool false, .string ⟨#[]⟩] rfl rfl 27 _ hres0 (by kernel_rfl) rfl (by simp [Value.oneCell']) ?_) | go_in)
    exact retS _ _ _ _ 4 Tryz.results5 rfl hres0 hbel0
  · by_cases h : set < 1 ∨ 5 < set
    · rw [if_pos (by omega)]
      clear hF
      go_enter Tryz.func5, Tryz.ntmps5
      go_wp2_with fail
      refine (specNameE set _).mono ?_
      rintro e w2 ⟨t, rfl, ht, rfl⟩
      rw [decide_eq_true h] at ht
      go_wp2_with (first | (refine wpL_store_row rfl 27 _ _ rfl w.heap.size #[.bool false, .string ⟨#[]⟩] rfl rfl 27 _ hres0 (by kernel_rfl) rfl (by simp [Value.oneCell']) ?_) | go_in)
      exact retS _ _ _ _ 4 Tryz.results5 rfl hres0 hbel0
    · rw [if_neg (by omega)]
      go_enter Tryz.func5, Tryz.ntmps5
      go_wp2_with fail
      refine (specNameE set _).mono ?_
      rintro e w2 ⟨t, rfl, ht, rfl⟩
      rw [decide_eq_false h] at ht
      have hsz0 : (w.alloc (.cells #[.bool false, .string ⟨#[]⟩] 27)).heap.size = w.heap.size + 1 := by simp
      obtain ⟨i0, hi, hy0, hy1, hy2⟩ := info_parts Tryz.info5
      have HW : Hid (PtsAt (w.alloc (.cells #[.bool false, .string ⟨#[]⟩] 27)).heap.size (w.alloc (.cells #[.bool false, .string ⟨#[]⟩] 27)) o ps) := show _ from (hF.below hbel0).mono hbel0.size
      clear hF
      have hset : 1 ≤ set ∧ set ≤ 5 := by omega
      have hlen2 : ps.length ≤ 100000 := by omega
      clear hl h hlen
      go_wp2
      clear ht
      obtain ⟨W, hW⟩ : ∃ W, W = w.alloc (.cells #[.bool false, .string ⟨#[]⟩] 27) := ⟨_, rfl⟩
      rw [← hW] at hres0 hbel0 hsz0 HW ⊢
      have hown0 := Own.made W.heap.size W (Nat.le_refl _)
      rw [show (⟨W.heap.size, 0, none⟩ : Addr) = ⟨w.heap.size + 1, 0, none⟩ by rw [hsz0]] at hown0
      have hbW0 : Below W.heap.size W (W.alloc (.cells #[] 5)) := (Below.refl _ _).alloc (Nat.le_refl _) _
      go_loopw [5, 6] (fun v i wr => ∃ (k : Nat) (p : List UInt8), k ≤ ps.length ∧ i = .int .i64 k ∧ p.length ≤ 4 * k ∧ Hid (Pl.enc (Pl.form set) p (ps.drop k) = Pl.enc (Pl.form set) [] ps) ∧ Own W.heap.size v p wr ∧ Below W.heap.size W wr) (fun _ i _ => ps.length - (Lib.intOf i).toNat)
      case atStart => exact ⟨0, [], Nat.zero_le _, rfl, by simp, rfl, hown0, hbW0⟩
      case round =>
        obtain ⟨k, p, hk, rfl, hpl, hp, hown, hb⟩ := hrel
        have hres := (hb.block w.heap.size (by omega)).trans hres0
        have hbw := hbel0.trans (hb.mono hbel0.size)
        by_cases hlt : k < ps.length
        · obtain ⟨a, rfl, ha, hc0⟩ := (HW.out.below hb) k hlt
          have Hbad : Hid (Pl.form set ps[k] = [] → Pl.enc (Pl.form set) [] ps = none) := show _ → _ from fun h => Pl.enc_bad hlt h hp.out
          have Hstep : Hid (Pl.form set ps[k] ≠ [] → Pl.enc (Pl.form set) (p ++ Pl.form set ps[k]) (ps.drop (k + 1)) = Pl.enc (Pl.form set) [] ps) := show _ → _ from fun h => Pl.enc_step hlt h hp.out
          have Hfl := Pl.form_len set ps[k]
          clear hp
          generalize ps[k] = pt at hc0 Hbad Hstep Hfl
          have hfo := specForm set pt hset wr
          go_wp2_with fail
          refine hfo.mono ?_
          rintro e w3 ⟨v3, rfl, hown3, hb3⟩
          clear hfo
          have hbW3 := hb.trans (hb3.mono hb.size)
          have hown' := hown.keepb hb3
          have hres3 := (hbW3.block w.heap.size (by omega)).trans hres0
          have hbw3 := hbel0.trans (hbW3.mono hbel0.size)
          by_cases hnil : Pl.form set pt = []
          · have hE : Hid (Pl.enc (Pl.form set) [] ps = none) := Hbad.out hnil
            obtain ⟨o3, c3, rfl⟩ := hown3.flat
            rw [hnil]
            clear Hbad Hstep
            go_wp2_with (first | (refine wpL_store_row rfl 27 _ _ rfl w.heap.size #[.bool false, .string ⟨#[]⟩] rfl rfl 27 _ hres3 (by kernel_rfl) rfl (by simp [Value.oneCell']) ?_) | go_in)
            rw [hE.out]
            exact retS _ _ _ _ 4 Tryz.results5 rfl hres3 hbw3
          · have hE : Hid (Pl.enc (Pl.form set) (p ++ Pl.form set pt) (ps.drop (k + 1)) = Pl.enc (Pl.form set) [] ps) := Hstep.out hnil
            have hl1 : 0 < (Pl.form set pt).length := List.length_pos_iff.2 hnil
            have Hown3 : Hid (Own wr.heap.size v3 (Pl.form set pt) w3) := hown3
            obtain ⟨o3, c3, rfl⟩ := hown3.flat
            generalize Pl.form set pt = news at Hfl hE hl1 Hown3 hnil
            have hne : ¬ ((news.length : Int) = 0) := by omega
            clear Hbad Hstep hown3 hown
            go_wp2_with (at_builtin; go_must (refine wp_appo (W := W) rfl _ _ 22 rfl i0 Tryz.underlying22 hi hy0 hy1 hy2 W.heap.size _ p rfl hown' wr.heap.size _ news rfl Hown3.out hnil (by omega) (Nat.le_refl _) hbW3 ?_; intro v4 w4 hown4 hb4))
            go_roundw
            case rel => exact ⟨k + 1, _, by omega, by go_num, by rw [List.length_append]; omega, hE, hown4, hb4⟩
            case measure => simp [Lib.intOf]; omega
        · have hpn : Hid (Pl.enc (Pl.form set) [] ps = some p) := show _ = _ from Pl.enc_done (by omega) hp.out
          clear hp
          have hbk := hown.back (P := Tryz.prog) 22 9 Tryz.underlying22 Tryz.underlying5 Tryz.underlying9
          go_wp2_with (first | (refine wpL_store_row rfl 27 _ _ rfl w.heap.size #[.bool true, .string ⟨p.toArray⟩] rfl rfl 27 _ hres (by kernel_rfl) rfl (by simp [Value.oneCell']) ?_) | go_in)
          rw [hpn.out]
          exact retS _ _ _ _ 4 Tryz.results5 rfl hres hbw
end Go.Proofs.YtbppdfjigcelkaaGreatDoor
namespace Go.Proofs.YtbppdfjigcelkaaGreatDoor
open Go.RowKit Go.Lib
set_option maxRecDepth 20000 in
theorem mkH {p : Prop} (h : p) : Hid p := h
def small (c : UInt8) : UInt8 := if 65 ≤ c.toNat ∧ c.toNat ≤ 90 then UInt8.ofNat (c.toNat + 32) else c
def lower (l : List UInt8) : List UInt8 := l.map small

set_option maxRecDepth 20000 in
theorem small_yes (c : UInt8) (h : 65 ≤ c.toNat ∧ c.toNat ≤ 90) : ((small c).toNat : Int) = (c.toNat : Int) + 32 := by
  unfold small
  rw [if_pos h, UInt8.toNat_ofNat_of_lt' (by simp [UInt8.size]; omega)]
  omega
set_option maxRecDepth 20000 in
theorem small_no (c : UInt8) (h : ¬ (65 ≤ c.toNat ∧ c.toNat ≤ 90)) : small c = c := by
  unfold small
  rw [if_neg h]

/-- The bytes that are lowered so far. -/
def lowTo (l : List UInt8) (k : Nat) : List UInt8 := lower (l.take k) ++ l.drop k
set_option maxRecDepth 20000 in
theorem lowTo_len (l : List UInt8) (k : Nat) : (lowTo l k).length = l.length := by
  simp only [lowTo, lower, List.length_append, List.length_map, List.length_take, List.length_drop]; omega
set_option maxRecDepth 20000 in
theorem lowTo_zero (l : List UInt8) : lowTo l 0 = l := by simp [lowTo, lower]
set_option maxRecDepth 20000 in
theorem lowTo_all (l : List UInt8) (k : Nat) (h : l.length ≤ k) : lowTo l k = lower l := by
  rw [lowTo, List.take_of_length_le h, List.drop_eq_nil_of_le h, List.append_nil]
set_option maxRecDepth 20000 in
theorem lowTo_get (l : List UInt8) (k : Nat) (h : k < l.length) : (lowTo l k)[k]'(by rw [lowTo_len]; exact h) = l[k] := by
  simp only [lowTo, lower]
  rw [List.getElem_append_right (by simp; omega)]
  simp [List.length_take, Nat.min_eq_left (Nat.le_of_lt h)]
set_option maxRecDepth 20000 in
theorem lowTo_set (l : List UInt8) (k : Nat) (h : k < l.length) : (lowTo l k).set k (small l[k]) = lowTo l (k + 1) := by
  have e1 : l.take (k + 1) = l.take k ++ [l[k]] := by rw [List.take_succ_eq_append_getElem h]
  have hl : (lower (l.take k)).length = k := by simp [lower]; omega
  rw [lowTo, List.set_append, if_neg (by omega), hl, Nat.sub_self, List.drop_eq_getElem_cons h, List.set_cons_zero, lowTo, e1, lower, lower, List.map_append, List.append_assoc]
  rfl
set_option maxRecDepth 20000 in
theorem lowTo_same (l : List UInt8) (k : Nat) (h : k < l.length) (hs : small l[k] = l[k]) : lowTo l k = lowTo l (k + 1) := by
  rw [← lowTo_set l k h, hs, ← lowTo_get l k h, List.set_getElem_self]

/-- Block g holds the bytes p, each free to be written. -/
def HoldsB (g : Nat) (p : List UInt8) (w : World) : Prop := ∀ (j : Nat) (hj : j < p.length), w.cell? ⟨g, j, none⟩ = some (.int .u8 (p[j].toNat : Int)) ∧ w.frozen? ⟨g, j, none⟩ = false

set_option maxRecDepth 20000 in
theorem HoldsB.back {P : Program} {g cap : Nat} {p : List UInt8} {w : World} (h : HoldsB g p w) (src dst : TypeId) (hs : P.underlying src = some (.slice 5)) (he : P.underlying 5 = some (.int .u8)) (hd : P.underlying dst = some .string) :
    (convert src dst (.slice (some ⟨g, 0, none⟩) p.length cap)).run P w = .ok (.string ⟨p.toArray⟩) w :=
  run_convert_bytes_back w src dst 5 ⟨g, 0, none⟩ cap p hs he hd (fun j hj => by rw [add_off]; exact (h j hj).1)

set_option maxRecDepth 20000 in
theorem bytesOf {P : Program} (src dst : TypeId) (hs : P.underlying src = some .string) (hd : P.underlying dst = some (.slice 5)) (he : P.underlying 5 = some (.int .u8)) (s : ByteArray) (w : World) :
    ∃ cap W, (convert src dst (.string s)).run P w = .ok (.slice (some ⟨w.heap.size, 0, none⟩) s.size cap) W ∧ HoldsB w.heap.size s.data.toList W ∧ Below w.heap.size w W := by
  refine ⟨_, _, run_bytes_of_string w src dst 5 s hs hd he, ?_, (Below.refl _ _).drew.alloc (Nat.le_refl _) _⟩
  intro j hj
  have hj' : j < s.data.size := by simpa using hj
  have hsz : j < (bytesRow s (grownCap w s.size 0 5)).size := by
    simp only [bytesRow, Array.size_append, Array.size_map]; omega
  constructor
  · have e := World.cell?_alloc_mark w.drew (bytesRow s (grownCap w s.size 0 5)) 5 ((bytesRow s (grownCap w s.size 0 5)).size, (bytesRow s (grownCap w s.size 0 5)).size + 1) j
    refine e.trans ?_
    unfold bytesRow
    rw [Array.getElem?_append_left (by simpa using hj')]
    rw [Array.getElem?_map, Array.getElem?_eq_getElem hj']
    rfl
  · have e := World.frozen?_alloc_mark w.drew (bytesRow s (grownCap w s.size 0 5)) 5 (bytesRow s (grownCap w s.size 0 5)).size ((bytesRow s (grownCap w s.size 0 5)).size + 1) j
    refine e.trans ?_
    simp only [Bool.and_eq_false_imp, decide_eq_true_eq, decide_eq_false_iff_not]
    omega
set_option maxRecDepth 20000 in
theorem HoldsB.set {g : Nat} {p : List UInt8} {w : World} (h : HoldsB g p w) (k : Nat) (hk : k < p.length) (c : UInt8) : HoldsB g (p.set k c) (w.setCell ⟨g, k, none⟩ (.int .u8 (c.toNat : Int))) := by
  intro j hj
  have hj' : j < p.length := by simpa using hj
  refine ⟨?_, by rw [World.frozen?_setCell]; exact (h j hj').2⟩
  by_cases e : k = j
  · subst e
    rw [World.cell?_setCell_same w _ _ (h k hk).1, List.getElem_set_self]
  · rw [World.cell?_setCell_other w ⟨g, k, none⟩ ⟨g, j, none⟩ _ (by simp), List.getElem_set_ne e]
    exact (h j hj').1
set_option maxRecDepth 20000 in
set_option maxHeartbeats 1000000 in
theorem implLowered (s : ByteArray) (w : World) (hs : s.size ≤ 100000) :
    Calls Tryz.prog 66 #[.string s] w fun e w' => e = .returned (.string ⟨(lower s.data.toList).toArray⟩) ∧ Below w.heap.size w w' := by
  obtain ⟨cap, W, hcv, hh, hbW⟩ := bytesOf (P := Tryz.prog) 9 22 Tryz.underlying9 Tryz.underlying22 Tryz.underlying5 s w
  go_enter Tryz.func66, Tryz.ntmps66
  go_wp2
  clear hcv
  go_loopw [10] (fun i wr => ∃ k : Nat, k ≤ s.size ∧ i = .int .i64 k ∧ HoldsB w.heap.size (lowTo s.data.toList k) wr ∧ Below w.heap.size w wr) (fun i _ => s.size - (Lib.intOf i).toNat)
  case atStart => exact ⟨0, by omega, rfl, by rw [lowTo_zero]; exact hh, hbW⟩
  case round =>
    obtain ⟨k, hk, rfl, hold, hb⟩ := hrel
    have hll : s.data.toList.length = s.size := by simp
    by_cases hlt : k < s.size
    · obtain ⟨hc, hf⟩ := hold k (by rw [lowTo_len]; omega)
      rw [lowTo_get _ _ (by omega)] at hc
      have hset := lowTo_set s.data.toList k (by omega)
      have hsame := lowTo_same s.data.toList k (by omega)
      have hst := fun c => hold.set k (by rw [lowTo_len]; omega) c
      generalize s.data.toList[k] = c at hc hset hsame
      have h8 : c.toNat < 256 := UInt8.toNat_lt _
      by_cases hc1 : 65 ≤ c.toNat ∧ c.toNat ≤ 90
      · have hv := small_yes c hc1
        have hst' := mkH (hst (small c))
        rw [hset, hv] at hst'
        obtain ⟨h65, h90⟩ := hc1
        clear hset hsame hst hold hv hll
        have hb' := hb.setCell (p := ⟨w.heap.size, k, none⟩) (Nat.le_refl _) (.int .u8 ((c.toNat : Int) + 32))
        have hb'' := mkH hb'
        clear hb'
        go_wp2
        rw [show (c.toNat : Int) - 65 + 97 = (c.toNat : Int) + 32 by omega]
        go_roundw
        case rel => exact ⟨k + 1, by omega, by go_num, hst'.out, hb''.out⟩
        case measure => simp [Lib.intOf]; omega
      · have hv := mkH (hsame (small_no c hc1))
        clear hset hsame hst hll
        by_cases h65 : 65 ≤ c.toNat
        · have h90 : 90 < c.toNat := by omega
          clear hc1
          go_wp2
          go_roundw
          case rel => exact ⟨k + 1, by omega, by go_num, by rw [← hv.out]; exact hold, hb⟩
          case measure => simp [Lib.intOf]; omega
        · clear hc1
          go_wp2
          go_roundw
          case rel => exact ⟨k + 1, by omega, by go_num, by rw [← hv.out]; exact hold, hb⟩
          case measure => simp [Lib.intOf]; omega
    · rw [lowTo_all _ _ (by omega)] at hold
      have hlen : (lower s.data.toList).length = s.size := by simp [lower]
      have hbk := hold.back (P := Tryz.prog) (cap := cap) 22 9 Tryz.underlying22 Tryz.underlying5 Tryz.underlying9
      rw [hlen] at hbk
      clear hlen hll hold
      go_wp2
      go_ret
      exact ⟨rfl, hb⟩
end Go.Proofs.YtbppdfjigcelkaaGreatDoor
namespace Go.Proofs.YtbppdfjigcelkaaGreatDoor
namespace Wi
/-- A pattern taken apart: -1 any bytes, -2 one byte, else a byte. -/
def items : List UInt8 → List Int
  | [] => []
  | c :: r => if c = 42 then -1 :: items r else if c = 63 then -2 :: items r else if c = 92 then (match r with | [] => [92] | d :: r' => ((small d).toNat : Int) :: items r') else ((small c).toNat : Int) :: items r
set_option maxRecDepth 20000 in
theorem items_cons (c : UInt8) (r : List UInt8) : items (c :: r) = if c = 42 then -1 :: items r else if c = 63 then -2 :: items r else if c = 92 then (match r with | [] => [92] | d :: r' => ((small d).toNat : Int) :: items r') else ((small c).toNat : Int) :: items r := by
  rw [items.eq_def]
set_option maxRecDepth 20000 in
theorem items_len (p : List UInt8) : (items p).length ≤ p.length := by
  match p with
  | [] => simp [items]
  | c :: r =>
    have := items_len r
    unfold items
    split
    · simpa using this
    · split
      · simpa using this
      · split
        · match r with
          | [] => simp
          | d :: r' => have := items_len r'; simp; omega
        · simpa using this
set_option maxRecDepth 20000 in
theorem small_pos (c : UInt8) : (0 : Int) ≤ ((small c).toNat : Int) := by omega
set_option maxRecDepth 20000 in
theorem items_star (p : List UInt8) (k : Nat) (h : k < p.length) (hc : p[k] = 42) : items (p.drop k) = -1 :: items (p.drop (k + 1)) := by
  rw [List.drop_eq_getElem_cons h, hc, items_cons, if_pos rfl]
set_option maxRecDepth 20000 in
theorem items_any (p : List UInt8) (k : Nat) (h : k < p.length) (hc : p[k] = 63) : items (p.drop k) = -2 :: items (p.drop (k + 1)) := by
  rw [List.drop_eq_getElem_cons h, hc, items_cons, if_neg (by decide), if_pos rfl]
set_option maxRecDepth 20000 in
theorem items_esc (p : List UInt8) (k : Nat) (h : k + 1 < p.length) (hc : p[k] = 92) : items (p.drop k) = ((small p[k + 1]).toNat : Int) :: items (p.drop (k + 2)) := by
  rw [List.drop_eq_getElem_cons (by omega), hc, List.drop_eq_getElem_cons h]; rfl
set_option maxRecDepth 20000 in
theorem items_last (p : List UInt8) (k : Nat) (h : k < p.length) (h1 : p.length ≤ k + 1) (hc : p[k] = 92) : items (p.drop k) = ((small p[k]).toNat : Int) :: items (p.drop (k + 1)) := by
  rw [List.drop_eq_getElem_cons h, hc, List.drop_eq_nil_of_le h1]; rfl
set_option maxRecDepth 20000 in
theorem items_byte (p : List UInt8) (k : Nat) (h : k < p.length) (h1 : p[k] ≠ 42) (h2 : p[k] ≠ 63) (h3 : p[k] ≠ 92) : items (p.drop k) = ((small p[k]).toNat : Int) :: items (p.drop (k + 1)) := by
  rw [List.drop_eq_getElem_cons h, items_cons, if_neg h1, if_neg h2, if_neg h3]
set_option maxRecDepth 20000 in
theorem small_small (c : UInt8) : small (small c) = small c := by
  have h8 := UInt8.toNat_lt c
  by_cases h : 65 ≤ c.toNat ∧ c.toNat ≤ 90
  · have := small_yes c h
    exact small_no _ (by omega)
  · rw [small_no c h, small_no c h]
set_option maxRecDepth 20000 in
theorem small_eq (c d : UInt8) (hd : ¬ (65 ≤ d.toNat ∧ d.toNat ≤ 90)) (hd2 : ¬ (97 ≤ d.toNat ∧ d.toNat ≤ 122)) : small c = d ↔ c = d := by
  by_cases h : 65 ≤ c.toNat ∧ c.toNat ≤ 90
  · have := small_yes c h
    constructor
    · intro e; rw [e] at this; omega
    · intro e; subst e; exact absurd h hd
  · rw [small_no c h]
set_option maxRecDepth 20000 in
theorem items_lower (p : List UInt8) : items (lower p) = items p := by
  match p with
  | [] => rfl
  | c :: r =>
    have ih := items_lower r
    have e : lower (c :: r) = small c :: lower r := rfl
    rw [e]
    unfold items
    have e1 := small_eq c 42 (by decide) (by decide)
    have e2 := small_eq c 63 (by decide) (by decide)
    have e3 := small_eq c 92 (by decide) (by decide)
    simp only [e1, e2, e3]
    split
    · rw [ih]
    · split
      · rw [ih]
      · split
        · match r with
          | [] => rfl
          | d :: r' =>
            have ih' := items_lower r'
            show ((small (small d)).toNat : Int) :: items (lower r') = _
            rw [small_small, ih']
        · rw [small_small, ih]
set_option maxRecDepth 20000 in
theorem items_ge (p : List UInt8) : ∀ x ∈ items p, -2 ≤ x ∧ x < 256 := by
  match p with
  | [] => intro x h; simp [items] at h
  | c :: r =>
    have ih := items_ge r
    intro x h
    have hb : ∀ d : UInt8, -2 ≤ ((small d).toNat : Int) ∧ ((small d).toNat : Int) < 256 := fun d => by have := UInt8.toNat_lt (small d); omega
    unfold items at h
    split at h
    · rcases List.mem_cons.1 h with rfl | h
      · omega
      · exact ih x h
    · split at h
      · rcases List.mem_cons.1 h with rfl | h
        · omega
        · exact ih x h
      · split at h
        · match r, h with
          | [], h => simp at h; omega
          | d :: r', h =>
            rcases List.mem_cons.1 h with rfl | h
            · exact hb d
            · exact items_ge r' x h
        · rcases List.mem_cons.1 h with rfl | h
          · exact hb c
          · exact ih x h

def anyFrom (f : List UInt8 → Bool) : List UInt8 → Bool
  | [] => f []
  | c :: t => f (c :: t) || anyFrom f t
def ok (x : Int) (c : UInt8) : Bool := x == -2 || x == (c.toNat : Int)
/-- Whether items fit a text (of small letters). -/
def fits : List Int → List UInt8 → Bool
  | [] => fun t => t.isEmpty
  | x :: p => fun t => if x = -1 then anyFrom (fits p) t else match t with | [] => false | c :: t' => ok x c && fits p t'
set_option maxRecDepth 20000 in
theorem fits_star (x : Int) (p : List Int) (t : List UInt8) (h : x = -1) : fits (x :: p) t = anyFrom (fits p) t := by
  subst h; rfl
set_option maxRecDepth 20000 in
theorem fits_one (x : Int) (p : List Int) (c : UInt8) (t : List UInt8) (h : x ≠ -1) : fits (x :: p) (c :: t) = (ok x c && fits p t) := by
  show (if x = -1 then _ else _) = _
  rw [if_neg h]
set_option maxRecDepth 20000 in
theorem fits_none (x : Int) (p : List Int) (h : x ≠ -1) : fits (x :: p) [] = false := by
  show (if x = -1 then _ else _) = _
  rw [if_neg h]
def F (P : List Int) (L : List UInt8) (i j : Nat) : Bool := fits (P.drop i) (L.drop j)
set_option maxRecDepth 20000 in
theorem F_end (P : List Int) (L : List UInt8) (i j : Nat) (h : P.length ≤ i) : F P L i j = decide (L.length ≤ j) := by
  rw [F, List.drop_eq_nil_of_le h, fits]
  by_cases hj : L.length ≤ j
  · rw [List.drop_eq_nil_of_le hj]; simp [hj]
  · rw [List.drop_eq_getElem_cons (by omega)]; simp [hj]
set_option maxRecDepth 20000 in
theorem F_star (P : List Int) (L : List UInt8) (i j : Nat) (h : i < P.length) (hs : P[i] = -1) (hj : j < L.length) : F P L i j = (F P L (i + 1) j || F P L i (j + 1)) := by
  rw [F, List.drop_eq_getElem_cons h, fits_star _ _ _ hs, F, F, List.drop_eq_getElem_cons h, fits_star _ _ _ hs, List.drop_eq_getElem_cons hj, anyFrom]
set_option maxRecDepth 20000 in
theorem F_star_end (P : List Int) (L : List UInt8) (i j : Nat) (h : i < P.length) (hs : P[i] = -1) (hj : L.length ≤ j) : F P L i j = F P L (i + 1) j := by
  rw [F, List.drop_eq_getElem_cons h, fits_star _ _ _ hs, F, List.drop_eq_nil_of_le hj, anyFrom]
set_option maxRecDepth 20000 in
theorem F_one (P : List Int) (L : List UInt8) (i j : Nat) (h : i < P.length) (hs : P[i] ≠ -1) (hj : j < L.length) : F P L i j = (ok P[i] L[j] && F P L (i + 1) (j + 1)) := by
  rw [F, List.drop_eq_getElem_cons h, List.drop_eq_getElem_cons hj, fits_one _ _ _ _ hs, F]
set_option maxRecDepth 20000 in
theorem F_one_end (P : List Int) (L : List UInt8) (i j : Nat) (h : i < P.length) (hs : P[i] ≠ -1) (hj : L.length ≤ j) : F P L i j = false := by
  rw [F, List.drop_eq_getElem_cons h, List.drop_eq_nil_of_le hj, fits_none _ _ hs]
set_option maxRecDepth 20000 in
theorem F_one_fwd (P : List Int) (L : List UInt8) (i j : Nat) (h : i < P.length) (hs : P[i] ≠ -1) (hF : F P L i j = true) : ∃ hj : j < L.length, ok P[i] L[j] = true ∧ F P L (i + 1) (j + 1) = true := by
  by_cases hj : j < L.length
  · rw [F_one P L i j h hs hj, Bool.and_eq_true] at hF
    exact ⟨hj, hF⟩
  · rw [F_one_end P L i j h hs (by omega)] at hF; cases hF
set_option maxRecDepth 20000 in
theorem F_star_fwd (P : List Int) (L : List UInt8) (i j : Nat) (h : i < P.length) (hs : P[i] = -1) (hj : j ≤ L.length) (hF : F P L i j = true) : ∃ k, j ≤ k ∧ k ≤ L.length ∧ F P L (i + 1) k = true := by
  by_cases hj' : j < L.length
  · rw [F_star P L i j h hs hj', Bool.or_eq_true] at hF
    rcases hF with hF | hF
    · exact ⟨j, Nat.le_refl _, hj, hF⟩
    · obtain ⟨k, h1, h2, h3⟩ := F_star_fwd P L i (j + 1) h hs (by omega) hF
      exact ⟨k, by omega, h2, h3⟩
  · rw [F_star_end P L i j h hs (by omega)] at hF
    exact ⟨j, Nat.le_refl _, hj, hF⟩
  termination_by L.length - j
set_option maxRecDepth 20000 in
theorem F_star_left (P : List Int) (L : List UInt8) (i j k : Nat) (h : i < P.length) (hs : P[i] = -1) (hjk : j ≤ k) (hk : k ≤ L.length) (hF : F P L i k = true) : F P L i j = true := by
  by_cases e : j = k
  · subst e; exact hF
  · rw [F_star P L i j h hs (by omega), F_star_left P L i (j + 1) k h hs (by omega) hk hF, Bool.or_true]
  termination_by k - j
set_option maxRecDepth 20000 in
theorem F_star_back (P : List Int) (L : List UInt8) (i j k : Nat) (h : i < P.length) (hs : P[i] = -1) (hjk : j ≤ k) (hk : k ≤ L.length) (hF : F P L (i + 1) k = true) : F P L i j = true := by
  refine F_star_left P L i j k h hs hjk hk ?_
  by_cases e : k < L.length
  · rw [F_star P L i k h hs e, hF, Bool.true_or]
  · rw [F_star_end P L i k h hs (by omega), hF]

def srch (f : Nat → Bool) : Nat → Nat → Nat
  | 0, k => k
  | n + 1, k => if f k then k else srch f n (k + 1)
set_option maxRecDepth 20000 in
theorem srch_eq (f : Nat → Bool) (n k0 k : Nat) (h0 : k0 ≤ k) (hf : f k = true) (hno : ∀ j, k0 ≤ j → j < k → f j = false) (hn : k - k0 < n) : srch f n k0 = k := by
  induction n generalizing k0 with
  | zero => omega
  | succ n ih =>
    unfold srch
    by_cases e : k0 = k
    · subst e; rw [if_pos hf]
    · rw [hno k0 (Nat.le_refl _) (by omega)]
      exact ih (k0 + 1) (by omega) (fun j h1 h2 => hno j (by omega) h2) (by omega)
set_option maxRecDepth 20000 in
/-- The first place from k0 on. -/
theorem first_of (f : Nat → Bool) (n k0 k : Nat) (h0 : k0 ≤ k) (hf : f k = true) (hn : k - k0 < n) : k0 ≤ srch f n k0 ∧ srch f n k0 ≤ k ∧ f (srch f n k0) = true := by
  induction n generalizing k0 with
  | zero => omega
  | succ n ih =>
    unfold srch
    by_cases e : f k0 = true
    · rw [if_pos e]; exact ⟨Nat.le_refl _, h0, e⟩
    · rw [if_neg e]
      have hne : k0 ≠ k := fun h => e (h ▸ hf)
      obtain ⟨h1, h2, h3⟩ := ih (k0 + 1) (by omega) (by omega)
      exact ⟨by omega, h2, h3⟩
def pos (P : List Int) (L : List UInt8) : Nat → Nat
  | 0 => 0
  | i + 1 => if P[i]? = some (-1) then srch (F P L (i + 1)) (L.length + 1) (pos P L i) else pos P L i + 1
set_option maxRecDepth 20000 in
theorem pos_star (P : List Int) (L : List UInt8) (i : Nat) (h : i < P.length) (hs : P[i] = -1) : pos P L (i + 1) = srch (F P L (i + 1)) (L.length + 1) (pos P L i) := by
  rw [pos, if_pos (by rw [List.getElem?_eq_getElem h, hs])]
set_option maxRecDepth 20000 in
theorem pos_one (P : List Int) (L : List UInt8) (i : Nat) (h : i < P.length) (hs : P[i] ≠ -1) : pos P L (i + 1) = pos P L i + 1 := by
  rw [pos, if_neg (by rw [List.getElem?_eq_getElem h]; simpa using hs)]
set_option maxRecDepth 20000 in
/-- The places of a pattern that fits. -/
theorem pos_F (P : List Int) (L : List UInt8) (hF : F P L 0 0 = true) (i : Nat) (h : i ≤ P.length) : pos P L i ≤ L.length ∧ F P L i (pos P L i) = true := by
  induction i with
  | zero => exact ⟨Nat.zero_le _, hF⟩
  | succ i ih =>
    obtain ⟨h1, h2⟩ := ih (by omega)
    by_cases hs : P[i] = -1
    · obtain ⟨k, hk1, hk2, hk3⟩ := F_star_fwd P L i _ (by omega) hs h1 h2
      obtain ⟨e1, e2, e3⟩ := first_of (F P L (i + 1)) (L.length + 1) (pos P L i) k hk1 hk3 (by omega)
      rw [pos_star P L i (by omega) hs]
      exact ⟨by omega, e3⟩
    · obtain ⟨hj, -, h3⟩ := F_one_fwd P L i _ (by omega) hs h2
      rw [pos_one P L i (by omega) hs]
      exact ⟨by omega, h3⟩
set_option maxRecDepth 20000 in
theorem pos_mono (P : List Int) (L : List UInt8) (hF : F P L 0 0 = true) (i : Nat) (h : i < P.length) : pos P L i ≤ pos P L (i + 1) := by
  obtain ⟨h1, h2⟩ := pos_F P L hF i (by omega)
  by_cases hs : P[i] = -1
  · obtain ⟨k, hk1, hk2, hk3⟩ := F_star_fwd P L i _ (by omega) hs h1 h2
    obtain ⟨e1, e2, e3⟩ := first_of (F P L (i + 1)) (L.length + 1) (pos P L i) k hk1 hk3 (by omega)
    rw [pos_star P L i (by omega) hs]
    exact e1
  · rw [pos_one P L i (by omega) hs]; omega

/-- What is known where the greedy search stands: x pieces are laid up to the place a; q stands behind the last star. -/
structure Inv (P : List Int) (L : List UInt8) (B : Nat → Nat) (x a q : Nat) : Prop where
  hq : q ≤ x
  hx : x ≤ P.length
  ha : a ≤ L.length
  hB : B x = a
  seg : ∀ i, q ≤ i → i ≤ x → B i = B q + (i - q)
  one : ∀ i (h : i < P.length), q ≤ i → i < x → P[i] ≠ -1 ∧ ∃ hj : B i < L.length, ok P[i] L[B i] = true
  zero : q = 0 → B 0 = 0
  star : ∀ h : q - 1 < P.length, 0 < q → P[q - 1] = -1
  back : 0 < q → B (q - 1) ≤ B q ∧ ∀ b, B (q - 1) ≤ b → b ≤ L.length → F P L q b = true → F P L 0 0 = true
  same : F P L 0 0 = true → (∀ i, i < q → B i = pos P L i) ∧ B q ≤ pos P L q
set_option maxRecDepth 20000 in
theorem Inv.start (P : List Int) (L : List UInt8) (B : Nat → Nat) (h : B 0 = 0) : Inv P L B 0 0 0 := by
  refine ⟨Nat.le_refl _, Nat.zero_le _, Nat.zero_le _, h, ?_, fun i h h1 h2 => by omega, fun _ => h, fun _ h => by omega, fun h => by omega, fun _ => ⟨fun i h => by omega, by rw [h]; exact Nat.zero_le _⟩⟩
  intro i h1 h2
  obtain rfl : i = 0 := by omega
  rfl
set_option maxRecDepth 20000 in
theorem Inv.bq {P : List Int} {L : List UInt8} {B : Nat → Nat} {x a q : Nat} (v : Inv P L B x a q) : B q + (x - q) = a := by rw [← v.seg x v.hq (Nat.le_refl _), v.hB]
set_option maxRecDepth 20000 in
/-- From the segment's first piece to where the search stands, and back. -/
theorem Inv.fwd {P : List Int} {L : List UInt8} {B : Nat → Nat} {x a q : Nat} (v : Inv P L B x a q) (b i : Nat) (hF : F P L q b = true) (h1 : q ≤ i) (h2 : i ≤ x) : F P L i (b + (i - q)) = true ∧ (0 < i → pos P L q = b → pos P L i = b + (i - q)) := by
  induction i with
  | zero => obtain rfl : q = 0 := by omega
            exact ⟨by simpa using hF, fun h => by omega⟩
  | succ i ih =>
    by_cases e : q = i + 1
    · subst e; exact ⟨by simpa using hF, fun _ h => by simpa using h⟩
    · obtain ⟨h3, h4⟩ := ih (by omega) (by omega)
      have hP : i < P.length := by have := v.hx; omega
      have hs := (v.one i hP (by omega) (by omega)).1
      obtain ⟨hj, -, h5⟩ := F_one_fwd P L i _ hP hs h3
      refine ⟨by rw [show b + (i + 1 - q) = b + (i - q) + 1 by omega]; exact h5, fun _ hp => ?_⟩
      rw [pos_one P L i hP hs]
      by_cases e0 : i = 0
      · subst e0
        obtain rfl : q = 0 := by omega
        rw [← hp]
      · rw [h4 (by omega) hp]; omega
set_option maxRecDepth 20000 in
theorem Inv.bwd {P : List Int} {L : List UInt8} {B : Nat → Nat} {x a q : Nat} (v : Inv P L B x a q) (hF : F P L x a = true) : F P L q (B q) = true := by
  have key : ∀ d, d ≤ x - q → F P L (x - d) (B (x - d)) = true := by
    intro d
    induction d with
    | zero => intro _; rw [Nat.sub_zero, v.hB]; exact hF
    | succ d ih =>
      intro hd
      have h1 := ih (by omega)
      have hP : x - (d + 1) < P.length := by have := v.hx; omega
      obtain ⟨hs, hj, hok⟩ := v.one (x - (d + 1)) hP (by omega) (by omega)
      rw [F_one P L _ _ hP hs hj, hok, Bool.true_and]
      have e1 := v.seg (x - (d + 1)) (by omega) (by omega)
      have e2 := v.seg (x - d) (by omega) (by omega)
      rw [show B (x - (d + 1)) + 1 = B (x - d) by omega, show x - (d + 1) + 1 = x - d by omega]
      exact h1
  have := key (x - q) (Nat.le_refl _)
  rwa [show x - (x - q) = q by have := v.hq; omega] at this
set_option maxRecDepth 20000 in
theorem Inv.all {P : List Int} {L : List UInt8} {B : Nat → Nat} {x a q : Nat} (v : Inv P L B x a q) (hF : F P L x a = true) : F P L 0 0 = true := by
  have h := v.bwd hF
  by_cases e : q = 0
  · subst e; rw [v.zero rfl] at h; exact h
  · obtain ⟨h1, h2⟩ := v.back (by omega)
    exact h2 _ h1 (by have := v.bq; have := v.ha; omega) h
set_option maxRecDepth 20000 in
/-- Where the segment fits at its place, this is the place. -/
theorem Inv.posq {P : List Int} {L : List UInt8} {B : Nat → Nat} {x a q : Nat} (v : Inv P L B x a q) (hF : F P L q (B q) = true) (h0 : F P L 0 0 = true) : pos P L q = B q := by
  obtain ⟨h1, h2⟩ := v.same h0
  by_cases e : q = 0
  · subst e; rw [v.zero rfl]; rfl
  · obtain ⟨h3, -⟩ := v.back (by omega)
    have hP : q - 1 < P.length := by have := v.hx; have := v.hq; omega
    have hs := v.star hP (by omega)
    have e1 := h1 (q - 1) (by omega)
    have e2 := pos_star P L (q - 1) hP hs
    rw [show q - 1 + 1 = q by omega] at e2
    have hb := v.bq
    have ha := v.ha
    obtain ⟨e3, e4, e5⟩ := first_of (F P L q) (L.length + 1) (pos P L (q - 1)) (B q) (by omega) hF (by omega)
    rw [← e2] at e4
    omega
set_option maxRecDepth 20000 in
theorem Inv.places {P : List Int} {L : List UInt8} {B : Nat → Nat} {x a q : Nat} (v : Inv P L B x a q) (hF : F P L q (B q) = true) (h0 : F P L 0 0 = true) (i : Nat) (h : i ≤ x) : B i = pos P L i := by
  have hp := v.posq hF h0
  by_cases hi : i < q
  · exact (v.same h0).1 i hi
  · by_cases e : i = 0
    · subst e
      obtain rfl : q = 0 := by omega
      rw [v.zero rfl]; rfl
    · rw [(v.fwd (B q) i hF (by omega) h).2 (by omega) hp]
      exact v.seg i (by omega) h
def upd (B : Nat → Nat) (i a : Nat) : Nat → Nat := fun j => if j = i then a else B j
set_option maxRecDepth 20000 in
theorem upd_at (B : Nat → Nat) (i a : Nat) : upd B i a i = a := by simp [upd]
set_option maxRecDepth 20000 in
theorem upd_ne (B : Nat → Nat) (i a j : Nat) (h : j ≠ i) : upd B i a j = B j := by simp [upd, h]
set_option maxRecDepth 20000 in
/-- Another star. -/
theorem Inv.onStar {P : List Int} {L : List UInt8} {B : Nat → Nat} {x a q : Nat} (v : Inv P L B x a q) (h : x < P.length) (hs : P[x] = -1) : Inv P L (upd B (x + 1) a) (x + 1) a (x + 1) := by
  have hB := v.hB
  refine ⟨Nat.le_refl _, h, v.ha, upd_at _ _ _, ?_, fun i _ h1 h2 => by omega, fun h => by omega, ?_, ?_, ?_⟩
  · intro i h1 h2
    obtain rfl : i = x + 1 := by omega
    simp
  · intro _ _
    simpa using hs
  · intro _
    rw [upd_at, show x + 1 - 1 = x by omega, upd_ne _ _ _ _ (by omega), hB]
    refine ⟨Nat.le_refl _, fun b h1 h2 h3 => v.all (F_star_back P L x a b h hs h1 h2 h3)⟩
  · intro h0
    obtain ⟨hb1, hb2⟩ := pos_F P L h0 q (by have := v.hq; omega)
    obtain ⟨hf1, -⟩ := v.fwd _ x hb2 v.hq (Nat.le_refl _)
    have hle := (v.same h0).2
    have hbq := v.bq
    have hlen : pos P L q + (x - q) ≤ L.length := by
      by_cases e : q = x
      · subst e; simpa using hb1
      · have hP : x - 1 < P.length := by omega
        obtain ⟨hf2, -⟩ := v.fwd _ (x - 1) hb2 (by have := v.hq; omega) (by omega)
        obtain ⟨hj, -⟩ := F_one_fwd P L (x - 1) _ hP (v.one (x - 1) hP (by have := v.hq; omega) (by have := v.hq; omega)).1 hf2
        have := v.hq
        omega
    have hFa : F P L x a = true := F_star_left P L x a _ h hs (by omega) hlen hf1
    have hFq := v.bwd hFa
    have hpl := v.places hFq h0
    refine ⟨fun i hi => by rw [upd_ne _ _ _ _ (by omega)]; exact hpl i (by omega), ?_⟩
    rw [upd_at, pos_star P L x h hs, ← hpl x (Nat.le_refl _), hB]
    obtain ⟨k, hk1, hk2, hk3⟩ := F_star_fwd P L x a h hs v.ha hFa
    exact (first_of (F P L (x + 1)) (L.length + 1) a k hk1 hk3 (by omega)).1
set_option maxRecDepth 20000 in
/-- A piece that fits. -/
theorem Inv.onOne {P : List Int} {L : List UInt8} {B : Nat → Nat} {x a q : Nat} (v : Inv P L B x a q) (h : x < P.length) (hs : P[x] ≠ -1) (hj : a < L.length) (hok : ok P[x] L[a] = true) : Inv P L (upd B (x + 1) (a + 1)) (x + 1) (a + 1) q := by
  have hB := v.hB
  have hq := v.hq
  have hbq := v.bq
  have hu : ∀ i, i ≤ x → upd B (x + 1) (a + 1) i = B i := fun i hi => upd_ne _ _ _ _ (by omega)
  refine ⟨by omega, h, hj, upd_at _ _ _, ?_, ?_, fun e => by rw [hu 0 (by omega)]; exact v.zero e, v.star, ?_, ?_⟩
  · intro i h1 h2
    rw [hu q hq]
    by_cases e : i = x + 1
    · subst e; rw [upd_at]; omega
    · rw [hu i (by omega)]; exact v.seg i h1 (by omega)
  · intro i hP h1 h2
    rw [hu i (by omega)]
    by_cases e : i = x
    · subst e; exact ⟨hs, by rw [hB]; exact hj, by simpa [hB] using hok⟩
    · exact v.one i hP h1 (by omega)
  · intro h0
    rw [hu q hq, hu (q - 1) (by omega)]
    exact v.back h0
  · intro h0
    obtain ⟨h1, h2⟩ := v.same h0
    exact ⟨fun i hi => by rw [hu i (by omega)]; exact h1 i hi, by rw [hu q hq]; exact h2⟩
set_option maxRecDepth 20000 in
theorem Inv.noq {P : List Int} {L : List UInt8} {B : Nat → Nat} {x a q : Nat} (v : Inv P L B x a q) (hF : F P L x a = false) : F P L q (B q) = false := by
  cases hc : F P L q (B q) with
  | false => rfl
  | true =>
    have := (v.fwd (B q) x hc v.hq (Nat.le_refl _)).1
    rw [v.bq, hF] at this
    cases this
set_option maxRecDepth 20000 in
/-- The last star takes one more. -/
theorem Inv.onMore {P : List Int} {L : List UInt8} {B : Nat → Nat} {x a q : Nat} (v : Inv P L B x a q) (hF : F P L x a = false) (h0 : 0 < q) (hb : B q < L.length) : Inv P L (upd B q (B q + 1)) q (B q + 1) q := by
  have hq := v.hq
  have hno := v.noq hF
  refine ⟨Nat.le_refl _, by have := v.hx; omega, hb, upd_at _ _ _, ?_, fun i _ h1 h2 => by omega, fun h => by omega, v.star, ?_, ?_⟩
  · intro i h1 h2
    obtain rfl : i = q := by omega
    simp
  · intro h1
    rw [upd_at, upd_ne _ _ _ _ (by omega)]
    obtain ⟨h2, h3⟩ := v.back h1
    exact ⟨by omega, h3⟩
  · intro h1
    obtain ⟨h2, h3⟩ := v.same h1
    refine ⟨fun i hi => by rw [upd_ne _ _ _ _ (by omega)]; exact h2 i hi, ?_⟩
    rw [upd_at]
    have hp := (pos_F P L h1 q (by have := v.hx; omega)).2
    have : pos P L q ≠ B q := fun e => by rw [e, hno] at hp; cases hp
    omega
set_option maxRecDepth 20000 in
theorem Inv.none {P : List Int} {L : List UInt8} {B : Nat → Nat} {x a q : Nat} (v : Inv P L B x a q) (hF : F P L x a = false) (h : q = 0 ∨ L.length ≤ B q) : F P L 0 0 = false := by
  cases hc : F P L 0 0 with
  | false => rfl
  | true =>
    have hno := v.noq hF
    rcases h with e | e
    · subst e; rw [v.zero rfl, hc] at hno; cases hno
    · obtain ⟨h1, h2⟩ := pos_F P L hc q (by have := v.hx; have := v.hq; omega)
      have := (v.same hc).2
      rw [show pos P L q = B q by omega, hno] at h2
      cases h2
set_option maxRecDepth 20000 in
theorem Inv.done {P : List Int} {L : List UInt8} {B : Nat → Nat} {x a q : Nat} (v : Inv P L B x a q) (hx : x = P.length) (ha : a = L.length) : F P L 0 0 = true ∧ ∀ i, i ≤ P.length → B i = pos P L i := by
  have hF : F P L x a = true := by rw [F_end P L x a (by omega)]; simp [ha]
  have h0 := v.all hF
  exact ⟨h0, fun i hi => v.places (v.bwd hF) h0 i (by omega)⟩
/-- How much is left to do. -/
def left (n m x a q : Nat) : Nat := (n + 1 - q) * ((m + 2) * (n + 2)) + (m + 1 - (a - (x - q))) * (n + 2) + (n + 1 - x)
set_option maxRecDepth 20000 in
theorem left_star (n m x a q : Nat) (hq : q ≤ x) (hx : x < n) : left n m (x + 1) a (x + 1) < left n m x a q := by
  unfold left
  have e1 : (n + 1 - (x + 1)) * ((m + 2) * (n + 2)) + (m + 2) * (n + 2) ≤ (n + 1 - q) * ((m + 2) * (n + 2)) := by
    rw [← Nat.succ_mul]
    exact Nat.mul_le_mul_right _ (by omega)
  have e2 : (m + 1 - (a - (x + 1 - (x + 1)))) * (n + 2) ≤ (m + 1) * (n + 2) := Nat.mul_le_mul_right _ (by omega)
  have e3 : (m + 2) * (n + 2) = (m + 1) * (n + 2) + (n + 2) := by rw [← Nat.succ_mul]
  generalize (n + 1 - (x + 1)) * ((m + 2) * (n + 2)) = A at *
  generalize (n + 1 - q) * ((m + 2) * (n + 2)) = A' at *
  generalize (m + 1 - (a - (x + 1 - (x + 1)))) * (n + 2) = C at *
  generalize (m + 1) * (n + 2) = D at *
  omega
set_option maxRecDepth 20000 in
theorem left_one (n m x a q : Nat) (hq : q ≤ x) (hx : x < n) (ha : x - q ≤ a) : left n m (x + 1) (a + 1) q < left n m x a q := by
  unfold left
  rw [show a + 1 - (x + 1 - q) = a - (x - q) by omega]
  omega
set_option maxRecDepth 20000 in
theorem left_more (n m x a q : Nat) (hq : q ≤ x) (hx : x ≤ n) (hb : a - (x - q) < m) : left n m q (a - (x - q) + 1) q < left n m x a q := by
  unfold left
  have e1 : (m + 1 - (a - (x - q) + 1 - (q - q))) * (n + 2) + (n + 2) = (m + 1 - (a - (x - q))) * (n + 2) := by
    rw [← Nat.succ_mul]
    congr 1
    omega
  omega

/-- What the pieces below i fit, told of the stars and points alone. -/
def marksTo (P : List Int) (L : List UInt8) (t : List UInt8) : Nat → List (List UInt8)
  | 0 => []
  | i + 1 => marksTo P L t i ++ (match P[i]? with | some x => (if x < 0 then [(t.drop (pos P L i)).take (pos P L (i + 1) - pos P L i)] else []) | none => [])
set_option maxRecDepth 20000 in
theorem marksTo_wild (P : List Int) (L t : List UInt8) (i : Nat) (h : i < P.length) (hx : P[i] < 0) : marksTo P L t (i + 1) = marksTo P L t i ++ [(t.drop (pos P L i)).take (pos P L (i + 1) - pos P L i)] := by
  rw [marksTo, List.getElem?_eq_getElem h]; simp [hx]
set_option maxRecDepth 20000 in
theorem marksTo_byte (P : List Int) (L t : List UInt8) (i : Nat) (h : i < P.length) (hx : 0 ≤ P[i]) : marksTo P L t (i + 1) = marksTo P L t i := by
  rw [marksTo, List.getElem?_eq_getElem h]; simp; omega
/-- The texts that are told so far. -/
def told (P : List Int) (L t : List UInt8) (i : Nat) : List (List UInt8) := (t :: marksTo P L t i).take 10
set_option maxRecDepth 20000 in
theorem take_one {α : Type} (l : List α) (x : α) (h : (l.take 10).length < 10) : (l ++ [x]).take 10 = l.take 10 ++ [x] := by
  have hl : l.length < 10 := by simp at h; omega
  rw [List.take_of_length_le (by simp; omega), List.take_of_length_le (by omega)]
set_option maxRecDepth 20000 in
theorem take_full {α : Type} (l : List α) (x : α) (h : ¬ (l.take 10).length < 10) : (l ++ [x]).take 10 = l.take 10 := by
  have hl : 10 ≤ l.length := by simp at h; omega
  rw [List.take_append_of_le_length hl]
set_option maxRecDepth 20000 in
theorem told_len (P : List Int) (L t : List UInt8) (i : Nat) : (told P L t i).length ≤ 10 := by unfold told; simp; omega
set_option maxRecDepth 20000 in
theorem told_wild (P : List Int) (L t : List UInt8) (i : Nat) (h : i < P.length) (hx : P[i] < 0) (hl : (told P L t i).length < 10) : told P L t (i + 1) = told P L t i ++ [(t.drop (pos P L i)).take (pos P L (i + 1) - pos P L i)] := by
  unfold told at hl ⊢
  rw [marksTo_wild P L t i h hx, ← List.cons_append, take_one _ _ hl]
set_option maxRecDepth 20000 in
theorem told_full (P : List Int) (L t : List UInt8) (i : Nat) (h : i < P.length) (hl : ¬ (told P L t i).length < 10) : told P L t (i + 1) = told P L t i := by
  unfold told at hl ⊢
  by_cases hx : P[i] < 0
  · rw [marksTo_wild P L t i h hx, ← List.cons_append, take_full _ _ hl]
  · rw [marksTo_byte P L t i h (by omega)]
set_option maxRecDepth 20000 in
theorem told_byte (P : List Int) (L t : List UInt8) (i : Nat) (h : i < P.length) (hx : 0 ≤ P[i]) : told P L t (i + 1) = told P L t i := by
  unfold told
  rw [marksTo_byte P L t i h hx]
/-- What both sides answer. -/
def wild (p t : List UInt8) : List (List UInt8) := if F (items p) (lower t) 0 0 = true then told (items p) (lower t) t (items p).length else []
end Wi
end Go.Proofs.YtbppdfjigcelkaaGreatDoor
