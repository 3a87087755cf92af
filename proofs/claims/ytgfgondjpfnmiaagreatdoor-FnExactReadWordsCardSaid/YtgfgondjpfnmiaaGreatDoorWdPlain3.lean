
/- Decode, the program's side: the loop over any set that takes points. -/

/- Decode, the program's side: every set. -/

/- An encoded word, plain: both sides take the same. -/

/- A header's text as characters: the program's small steps. -/

/- A header's text as characters, plain: what both sides read. -/
import Derived.Test.YtgfgondjpfnmiaaGreatDoorAppN
import Derived.Test.YtgfgondjpfnmiaaGreatDoorUnLine
import Derived.Test.YtgfgondjpfnmiaaGreatDoorNinePlain
import Derived.Test.YtgfgondjpfnmiaaGreatDoorU64Value
import Derived.Test.YtgfgondjpfnmiaaGreatDoorCsName
import Derived.Maps.AppendAt
namespace Go.Proofs.YtgfgondjpfnmiaaGreatDoor
open Go.RowKit Go.Lib Go.Maps
/-- A set, as an interface value in the world W: it takes points. -/
structure Taker (set : Int) (T : TypeId) (rv : Value) (f : FuncId) (W : World) : Prop where
  ahead : ∀ w, (nilAhead 281 T rv "loop.example/g00013/impl.take").run Tryz.prog w = .ok (some false) w
  meth : ∀ w, (method 281 T rv "loop.example/g00013/impl.take").run Tryz.prog w = .ok (f, rv) w
  enters : ∀ (args : Array Value) (w : World), (callFunc f args).run Tryz.prog w = .ok (.enter f args) w
  take : ∀ (s : ByteArray) w, 0 < s.size → s.size ≤ 1100000 → Below W.heap.size W w → Calls Tryz.prog f #[rv, .string s] w fun e w' => e = .returned (tkV (Pd.take set s.data.toList)) ∧ Below w.heap.size w w'
/-- What Decode answers. -/
def DecOut (B : Nat) (x : Option (List Int)) (e : Ending) (w : World) : Prop := match x with
  | some ps => ∃ v, e = .returned (.agg #[.bool true, .int .i64 0, v]) ∧ OwnN B v ps w
  | none => ∃ i, e = .returned (.agg #[.bool false, .int .i64 i, .slice none 0 0])
set_option maxRecDepth 20000 in
theorem implTooLongD (s : ByteArray) (w : World) (hs : s.size ≤ 100000) : Calls Tryz.prog 11 #[.string s] w fun e w' => e = .returned (.bool false) ∧ w = w' := by
  have h : ¬ (100000 : Int) < (s.size : Int) := by omega
  go_enter Tryz.func11, Tryz.ntmps11
  go_wp2
  go_ret
  exact ⟨rfl, rfl⟩
set_option maxRecDepth 20000 in
theorem ext_drop (s : ByteArray) (k : Nat) : (s.extract k s.size).data.toList = s.data.toList.drop k := by
  simp [ByteArray.data_extract, Array.toList_extract, List.take_of_length_le]
set_option maxRecDepth 20000 in
theorem own_baseN {B B' : Nat} {v : Value} {P : List Int} {w : World} (h : OwnN B v P w) (hB : B' ≤ B) : OwnN B' v P w := by
  refine ⟨h.1, ?_⟩
  rcases h.2 with h0 | ⟨g, cap, cur, hv, hg, hr⟩
  · exact .inl h0
  · exact .inr ⟨g, cap, cur, hv, Nat.le_trans hB hg, hr⟩
set_option maxRecDepth 20000 in
theorem retD {w wr : World} {tmps : Array Value} {x : Option (List Int)} (cs : Array Value) (hp : tmps.getD 4 undef = .pointer (some ⟨w.heap.size, 0, none⟩)) {old : Array Value} (hres : wr.heap[w.heap.size]? = some (.cells old 29 (0, 0))) (hb : Below w.heap.size w wr) (h3 : cs.size = 3) (ho : DecOut w.heap.size x (.returned (.agg cs)) (wr.setRow w.heap.size cs)) :
    bodyPost Tryz.prog Tryz.f29 (fun e w' => DecOut w.heap.size x e w' ∧ Below w.heap.size w w') Exit.ret { tmps := tmps, defers := [] } (wr.setRow w.heap.size cs) := by
  refine bodyPost_ret (v := .agg cs) (results_cell_row Tryz.results29 _ _ w.heap.size 29 _ (0, 0) _ hp (setRow_heap _ _ _ _ _ _ hres) Tryz.underlying29 rfl ?_) rfl ⟨ho, hb.grown (grown_setRow _ _ _) hb.size (fun j hj => by cases hj; exact Nat.le_refl _)⟩
  rw [h3]
  kernel_rfl
set_option maxRecDepth 20000 in
set_option maxHeartbeats 4000000 in
theorem implDec (set : Int) (s : ByteArray) (w : World) (hs : s.size ≤ 100000)
    (hch : Calls Tryz.prog 48 #[.int .i64 set] (w.alloc (.cells #[.bool false, .int .i64 0, .slice none 0 0] 29)) fun e W => ∃ T rv f, e = .returned (.iface T rv) ∧ Below (w.alloc (.cells #[.bool false, .int .i64 0, .slice none 0 0] 29)).heap.size (w.alloc (.cells #[.bool false, .int .i64 0, .slice none 0 0] 29)) W ∧ Taker set T rv f W) :
    Calls Tryz.prog 29 #[.int .i64 set, .string s] w fun e w' => DecOut w.heap.size (Pd.dec set [] s.data.toList) e w' ∧ Below w.heap.size w w' := by
  have hc0 : decide ((100000 : Int) < (s.size : Int)) = false := by simp; omega
  have hch := mkHid hch
  have hN0 : (w.alloc (.cells #[.bool false, .int .i64 0, .slice none 0 0] 29)).heap[w.heap.size]? = some (.cells #[.bool false, .int .i64 0, .slice none 0 0] 29 (0, 0)) := heap_alloc_at _ _
  have hB0 : Below w.heap.size w (w.alloc (.cells #[.bool false, .int .i64 0, .slice none 0 0] 29)) := (Below.refl _ _).alloc (Nat.le_refl _) _
  have hz0 : (w.alloc (.cells #[.bool false, .int .i64 0, .slice none 0 0] 29)).heap.size = w.heap.size + 1 := World.size_alloc _ _
  have hTL := mkHid (fun W => implTooLongD s W hs)
  go_enter Tryz.func29, Tryz.ntmps29
  go_wp2_with fail
  refine hch.out.mono ?_
  rintro e W ⟨T, rv, f, rfl, hbW, hP⟩
  have HP := mkHid hP
  have hm := hP.meth
  have hah := hP.ahead
  have hE := hP.enters
  have HN : Hid (W.heap[w.heap.size]? = some (.cells #[.bool false, .int .i64 0, .slice none 0 0] 29 (0, 0))) := mkHid ((hbW.block _ (by omega)).trans hN0)
  have HB : Hid (Below w.heap.size w W) := mkHid (hB0.trans (hbW.mono (by omega)))
  have zW : w.heap.size + 1 ≤ W.heap.size := by have := hbW.size; omega
  clear hch hP hbW hB0 hN0 hz0
  go_wp2_with fail
  refine (hTL.out _).mono ?_
  rintro e W' ⟨rfl, rfl⟩
  clear hTL
  go_wp2
  go_loopw [6, 7] (fun v iv wr => ∃ (k : Nat) (p : List Int), k ≤ s.size ∧ iv = .int .i64 k ∧ p.length ≤ k ∧ Hid (Pd.dec set p (s.data.toList.drop k) = Pd.dec set [] s.data.toList) ∧ Hid (OwnN W.heap.size v p wr) ∧ Hid (Below W.heap.size W wr)) (fun _ iv _ => s.size - (Lib.intOf iv).toNat)
  case atStart => exact ⟨0, [], Nat.zero_le _, rfl, Nat.le_refl _, mkHid rfl, mkHid (OwnN.nil _ _), mkHid (Below.refl _ _)⟩
  case round =>
    obtain ⟨k, p, hk, rfl, hpl, Hd, HO, Hb⟩ := hrel
    have hll : s.data.toList.length = s.size := by simp
    have hres := (Hb.out.block w.heap.size (by omega)).trans HN.out
    have zr : W.heap.size ≤ wr.heap.size := Hb.out.size
    have hbw := mkHid (HB.out.trans (Hb.out.mono HB.out.size))
    obtain ⟨ob, cb, rfl⟩ := HO.out.shape
    by_cases hlt : k < s.size
    · have hes : (s.extract k s.size).size = s.size - k := by simp
      have hMe : Hid (∀ d os, Calls Tryz.prog f #[rv, .string (s.extract k s.size)] (Go.Sort.grow (redrawn wr d) os) fun e w'' => e = .returned (tkV (Pd.take set (s.data.toList.drop k))) ∧ ∃ p : Regrown, w'' = Go.Sort.grow (redrawn wr p.d) p.os) := mkHid (fun d os => by
        have := HP.out.take (s.extract k s.size) (Go.Sort.grow (redrawn wr d) os) (by omega) (by omega) (Hb.out.trans ((below_regrown wr d os).mono zr))
        rw [ext_drop] at this
        exact Calls.regrown_of this)
      have hkd : k < s.data.toList.length := by omega
      cases hx : Pd.take set (s.data.toList.drop k) with
      | none =>
        have Hbad := mkHid (Pd.dec_bad hkd hx Hd.out)
        rw [hx] at hMe
        unfold tkV at hMe
        clear hx
        go_wp2
        refine wp_region_quiet_below (by kernel_rfl) (by kernel_rfl) ?_
        iterate 7 (quiet_step (fail))
        quiet_step (first | exact hMe.out _ _ | exact ⟨trivial, hMe.out _ _⟩ | (trace_state; fail))
        repeat (quiet_step (fail))
        refine wpQuiet_nil ?_
        intro _ hw'
        obtain ⟨⟨dq, osq⟩, hw''⟩ := hw'
        subst hw''
        have hrq := ((below_regrown wr dq osq).block w.heap.size (by omega)).trans hres
        have hbq := mkHid (hbw.out.trans ((below_regrown wr dq osq).mono hbw.out.size))
        generalize Go.Sort.grow (redrawn wr dq) osq = wq at *
        clear hMe hm hE hah
        go_wp2_with (first | (refine wpL_store_row rfl 29 _ _ rfl w.heap.size #[.bool false, .int .i64 (k : Int), .slice none 0 0] rfl rfl 29 _ hrq (by kernel_rfl) rfl (by simp [Value.oneCell']) ?_) | go_in)
        rw [Hbad.out]
        exact retD _ rfl hrq hbq.out rfl ⟨_, rfl⟩
      | some qn =>
        obtain ⟨q, n⟩ := qn
        obtain ⟨hn1, hn2⟩ := Pd.take_room (by rw [List.drop_eq_getElem_cons hkd]; exact List.cons_ne_nil _ _) hx
        have Hst := mkHid (Pd.dec_step hkd hx Hd.out)
        have hn3 : k + n ≤ s.size := by rw [List.length_drop] at hn2; omega
        rw [hx] at hMe
        unfold tkV at hMe
        clear hx
        have hnz : ((n : Int) == 0) = false := by rw [beq_eq_false_iff_ne]; omega
        go_wp2
        refine wp_region_quiet_below (by kernel_rfl) (by kernel_rfl) ?_
        iterate 7 (quiet_step (fail))
        quiet_step (first | exact hMe.out _ _ | exact ⟨trivial, hMe.out _ _⟩ | (trace_state; fail))
        repeat (quiet_step (fail))
        refine wpQuiet_nil ?_
        intro _ hw'
        obtain ⟨⟨dq, osq⟩, hw''⟩ := hw'
        subst hw''
        have HOq := mkHid (HO.out.below (below_regrown wr dq osq))
        have Hbq := mkHid (Hb.out.trans ((below_regrown wr dq osq).mono zr))
        generalize Go.Sort.grow (redrawn wr dq) osq = wq at *
        have zq : W.heap.size ≤ wq.heap.size := Hbq.out.size
        clear hMe hm hE hah hres hbw HO Hb zr
        go_wp2_with (at_builtin; refine wp_appN rfl _ _ rfl W.heap.size (.slice ob p.length cb) p rfl HOq.out q _ rfl (by omega) zq ?_; intro v5 w5 hown5 hg5; refine Hid.out ?_)
        refine mkHid ?_
        have Hb5 := mkHid (Hbq.out.trans (show Below W.heap.size wq w5 from
          ⟨hg5.os, hg5.tape, hg5.output, Nat.le_trans (by simp) hg5.size, fun j hj => (hg5.block j (by simp; omega) (fun e => by have := (World.ownsRow.lt HOq.out j e.symm).1; omega)).trans (heap_alloc_old _ _ _ (by omega))⟩))
        clear hg5
        go_wp2
        go_roundw
        case rel => exact ⟨k + n, p ++ [q], hn3, by go_num, by simp; omega, Hst, mkHid hown5, Hb5⟩
        case measure => simp [Lib.intOf]; omega
    · have Hdn := mkHid (Pd.dec_done (by omega) Hd.out)
      go_wp2_with (first | (refine wpL_store_row rfl 29 _ _ rfl w.heap.size #[.bool true, .int .i64 0, .slice ob p.length cb] rfl rfl 29 _ hres (by kernel_rfl) rfl (by simp [Value.oneCell']) ?_) | go_in)
      rw [Hdn.out]
      refine retD _ rfl hres hbw.out rfl ⟨_, rfl, ?_⟩
      have hk2 := OwnN.keep HO.out (grown_setRow wr w.heap.size #[.bool true, .int .i64 0, .slice ob p.length cb]) (.inr (fun e => by have := (World.ownsRow.lt HO.out w.heap.size e).1; omega))
      exact own_baseN hk2 (by omega)
end Go.Proofs.YtgfgondjpfnmiaaGreatDoor
namespace Go.Proofs.YtgfgondjpfnmiaaGreatDoor
open Go.RowKit Go.Lib Go.Maps
set_option maxRecDepth 20000 in
theorem taker12 (set top : Int) (hs : set = 1 ∧ top = 127 ∨ set = 2 ∧ top = 255) (W : World) : Taker set 97 (.agg #[.int .i64 top]) 141 W where
  ahead := fun _ => by kernel_rfl
  meth := fun _ => by kernel_rfl
  enters := enters_of Tryz.func141 (by kernel_rfl) rfl
  take := fun s w h0 _ _ => implTake12 set top hs s h0 w
set_option maxRecDepth 20000 in
theorem taker3 (m1 m2 : Nat) (W : World) (hN : Nine W m1 m2) : Taker 3 101 (.agg #[.map (some m1), .map (some m2)]) 143 W where
  ahead := fun _ => by kernel_rfl
  meth := fun _ => by kernel_rfl
  enters := enters_of Tryz.func143 (by kernel_rfl) rfl
  take := fun s w h0 _ hb => implTake3 m1 m2 s h0 w (hN.below hb)
set_option maxRecDepth 20000 in
theorem taker4 (W : World) (hT : Lib.Utf8Tabs 2 3 W) : Taker 4 104 (.agg #[]) 145 W where
  ahead := fun _ => by kernel_rfl
  meth := fun _ => by kernel_rfl
  enters := enters_of Tryz.func145 (by kernel_rfl) rfl
  take := fun s w h0 _ hb => implTake4 s h0 w (tabsD_below hT hb)
set_option maxRecDepth 20000 in
theorem taker5 (W : World) : Taker 5 105 (.agg #[]) 147 W where
  ahead := fun _ => by kernel_rfl
  meth := fun _ => by kernel_rfl
  enters := enters_of Tryz.func147 (by kernel_rfl) rfl
  take := fun s w h0 h1 _ => implTake5 s h0 h1 w
/-- What both sides answer to a set and bytes. -/
def decA (set : Int) (l : List UInt8) : Option (List Int) := if set < 1 ∨ 5 < set then none else Pd.dec set [] l
set_option maxRecDepth 20000 in
set_option maxHeartbeats 1000000 in
theorem implDecode (set : Int) (s : ByteArray) (w : World) (hs : s.size ≤ 100000) (hT : Lib.Utf8Tabs 2 3 w) :
    Calls Tryz.prog 29 #[.int .i64 set, .string s] w fun e w' => DecOut w.heap.size (decA set s.data.toList) e w' ∧ Below w.heap.size w w' := by
  have hB0 : Below w.heap.size w (w.alloc (.cells #[.bool false, .int .i64 0, .slice none 0 0] 29)) := (Below.refl _ _).alloc (Nat.le_refl _) _
  unfold decA
  by_cases h : set < 1 ∨ 5 < set
  · rw [if_pos h]
    have hres0 : (w.alloc (.cells #[.bool false, .int .i64 0, .slice none 0 0] 29)).heap[w.heap.size]? = some (.cells #[.bool false, .int .i64 0, .slice none 0 0] 29 (0, 0)) := heap_alloc_at _ _
    have hc := mkHid (implChars0 set (w.alloc (.cells #[.bool false, .int .i64 0, .slice none 0 0] 29)) h)
    clear hT
    go_enter Tryz.func29, Tryz.ntmps29
    go_wp2_with fail
    refine hc.out.mono ?_
    rintro e w2 ⟨rfl, rfl⟩
    clear hc
    go_wp2_with (first | (refine wpL_store_row rfl 29 _ _ rfl w.heap.size #[.bool false, .int .i64 0, .slice none 0 0] rfl rfl 29 _ hres0 (by kernel_rfl) rfl (by simp [Value.oneCell']) ?_) | go_in)
    exact retD _ rfl hres0 hB0 rfl ⟨_, rfl⟩
  · rw [if_neg h]
    refine implDec set s w hs ?_
    have hset : set = 1 ∨ set = 2 ∨ set = 3 ∨ set = 4 ∨ set = 5 := by omega
    rcases hset with rfl | rfl | rfl | rfl | rfl
    · refine (implChars1 _).mono ?_
      rintro e W ⟨rfl, rfl⟩
      exact ⟨_, _, _, rfl, Below.refl _ _, taker12 1 127 (.inl ⟨rfl, rfl⟩) _⟩
    · refine (implChars2 _).mono ?_
      rintro e W ⟨rfl, rfl⟩
      exact ⟨_, _, _, rfl, Below.refl _ _, taker12 2 255 (.inr ⟨rfl, rfl⟩) _⟩
    · refine (implChars3 _).mono ?_
      rintro e W ⟨m1, m2, rfl, hN, -, -, hb⟩
      exact ⟨_, _, _, rfl, hb, taker3 m1 m2 _ hN⟩
    · refine (implChars4 _).mono ?_
      rintro e W ⟨rfl, rfl⟩
      exact ⟨_, _, _, rfl, Below.refl _ _, taker4 _ (tabsD_below hT hB0)⟩
    · refine (implChars5 _).mono ?_
      rintro e W ⟨rfl, rfl⟩
      exact ⟨_, _, _, rfl, Below.refl _ _, taker5 _⟩
end Go.Proofs.YtgfgondjpfnmiaaGreatDoor
namespace Go.Proofs.YtgfgondjpfnmiaaGreatDoor
open Go.Lib
namespace Pw
/-- The points of a word's three inner parts. -/
def three (a b c : List UInt8) : Option (List Int) := (data b c).bind (decA (setFrom 0 (lower a)))
/-- The program's way. -/
def word (l : List UInt8) : Option (List Int) :=
  if hasPrefix l [61, 63] = true ∧ hasSuffix (trimPrefix l [61, 63]) [63, 61] = true ∧ l.length ≤ 75 then
    (match Cu.cut 63 [] (trimSuffix (trimPrefix l [61, 63]) [63, 61]) with
      | [a, b, c] => three a b c
      | _ => none)
  else none
/-- The specification's way. -/
def wordS (l : List UInt8) : Option (List Int) :=
  if l.length ≤ 75 ∧ hasPrefix l [61, 63] = true ∧ hasSuffix l [63, 61] = true then
    (match Cu.cut 63 [] l with
      | [x, a, b, c, y] => if x = [61] ∧ y = [61] ∧ setFrom 0 (lower a) ≠ 0 then three a b c else none
      | _ => none)
  else none
set_option maxRecDepth 20000 in
theorem three_no (a b c : List UInt8) (h : setFrom 0 (lower a) = 0) : three a b c = none := by
  unfold three
  rw [h]
  cases data b c with
  | none => rfl
  | some x => rfl
set_option maxRecDepth 20000 in
theorem suf_of_inner (l : List UInt8) (h1 : hasPrefix l [61, 63] = true) (h2 : hasSuffix (trimPrefix l [61, 63]) [63, 61] = true) : hasSuffix l [63, 61] = true := by
  have e := word_shape l h1 h2
  unfold hasSuffix
  rw [List.isSuffixOf_iff_suffix]
  exact ⟨61 :: 63 :: trimSuffix (trimPrefix l [61, 63]) [63, 61], by rw [List.cons_append, List.cons_append]; exact e.symm⟩
set_option maxRecDepth 20000 in
theorem word_same (l : List UInt8) : wordS l = word l := by
  unfold wordS word
  by_cases h : hasPrefix l [61, 63] = true ∧ hasSuffix (trimPrefix l [61, 63]) [63, 61] = true ∧ l.length ≤ 75
  · obtain ⟨h1, h2, h3⟩ := h
    rw [if_pos ⟨h3, h1, suf_of_inner l h1 h2⟩, if_pos ⟨h1, h2, h3⟩]
    have e := word_shape l h1 h2
    have ec : Cu.cut 63 [] l = [61] :: (Cu.cut 63 [] (trimSuffix (trimPrefix l [61, 63]) [63, 61]) ++ [[61]]) := by
      conv => lhs; rw [e]
      exact word_parts _
    rw [ec]
    generalize Cu.cut 63 [] (trimSuffix (trimPrefix l [61, 63]) [63, 61]) = P
    match P with
    | [] => rfl
    | [_] => rfl
    | [_, _] => rfl
    | [a, b, c] =>
      show (if [61] = [61] ∧ [61] = [61] ∧ setFrom 0 (lower a) ≠ 0 then three a b c else none) = three a b c
      by_cases hz : setFrom 0 (lower a) = 0
      · rw [if_neg (fun h => h.2.2 hz), three_no a b c hz]
      · rw [if_pos ⟨rfl, rfl, hz⟩]
    | [_, _, _, _] => rfl
    | _ :: _ :: _ :: _ :: _ :: _ => rfl
  · by_cases hs : l.length ≤ 75 ∧ hasPrefix l [61, 63] = true ∧ hasSuffix l [63, 61] = true
    · rw [if_pos hs, if_neg h]
      have h3 : hasSuffix (trimPrefix l [61, 63]) [63, 61] = false := by
        cases hx : hasSuffix (trimPrefix l [61, 63]) [63, 61] with
        | false => rfl
        | true => exact absurd ⟨hs.2.1, hx, hs.1⟩ h
      have hn := word_short l hs.2.1 hs.2.2 h3
      generalize Cu.cut 63 [] l = P at hn
      match P, hn with
      | [], _ => rfl
      | [_], _ => rfl
      | [_, _], _ => rfl
      | [_, _, _], _ => rfl
      | [_, _, _, _], _ => rfl
      | [_, _, _, _, _], hn => exact absurd rfl hn
      | _ :: _ :: _ :: _ :: _ :: _ :: _, _ => rfl
    · rw [if_neg hs, if_neg h]
end Pw
end Go.Proofs.YtgfgondjpfnmiaaGreatDoor
namespace Go.Proofs.YtgfgondjpfnmiaaGreatDoor
open Go.RowKit Go.Lib
set_option maxRecDepth 20000 in
set_option maxHeartbeats 1000000 in
theorem implCutGap (s : ByteArray) (w : World) (hs : s.size ≤ 1100000) :
    Calls Tryz.prog 12 #[.string s] w fun e w' => e = .returned (.tuple #[.string (s.extract 0 (Pw.gap s.data.toList)), .string (s.extract (Pw.gap s.data.toList) s.size)]) ∧ Below w.heap.size w w' := by
  have cT := mkHid (libTrimLeft s w)
  have hle : Pw.gap s.data.toList ≤ s.size := by have := Pw.gap_le s.data.toList; simpa using this
  generalize Pw.gap s.data.toList = g at *
  have hsz : (s.extract g s.size).size = s.size - g := by simp
  have hsub : (s.size : Int) - ((s.size - g : Nat) : Int) = (g : Int) := by omega
  go_enter Tryz.func12, Tryz.ntmps12
  go_wp2_with fail
  refine cT.out.mono ?_
  rintro e w1 ⟨rfl, hb⟩
  have Hb := mkHid hb
  clear hb cT
  go_wp2
  go_ret2
  exact ⟨rfl, Hb.out⟩
namespace Pw
def pt (c : UInt8) : Int := if c.toNat < 128 then (c.toNat : Int) else 65533
def pts (l : List UInt8) : List Int := l.map pt
end Pw
set_option maxRecDepth 20000 in
/-- An append of one number: where its row lies. -/
theorem wp_appNa {w : World} {ops : Array Oper} {rest : List Oper} {o : Oper} {a : Act} {Q : Exit → Act → World → Prop} (hgd : o.guard = none) (s x : Operand)
    (ho : o.op = .call { callee := .builtin .append, args := #[s, x], argTypes := #[22, 22] })
    (B : Nat) (v : Value) (C : List Int) (hs : a.eval s = v) (hown : OwnN B v C w) (u : Int)
    (c : Nat) (hx : a.eval x = .slice (some ⟨w.heap.size, 0, none⟩) 1 c) (hlen : C.length ≤ 1000000) (hB : B ≤ w.heap.size)
    (h : ∀ v' w', OwnN B v' (C ++ [u]) w' → (w.alloc (.cells #[.int .i64 u] 2)).grownBy w' v.ownBlock → (v'.ownBlock = v.ownBlock ∨ v'.ownBlock = some (w.heap.size + 1)) → wpList Tryz.prog ops Q rest (a.put o.dst v') w') : wpList Tryz.prog ops Q (o :: rest) a (w.alloc (.cells #[.int .i64 u] 2)) := by
  obtain ⟨i0, hi0, hz0, hz1, hz2⟩ := info_parts Tryz.info2
  unfold OwnN at hown
  refine wpList_append_own_at _ hgd s x 22 ho B 2 i0 (.int .i64 0) 1 8 Tryz.underlying22 hi0 hz0 hz1 hz2 rfl (by decide) v C.length (numCells C) hs (World.ownsRow.alloc hown _) ⟨w.heap.size, 0, none⟩ 1 c [.int .i64 u] hx
    rfl ?_ ?_ (by unfold maxLen; omega) (by omega) (by simp; omega) ?_
  · intro j y hj
    rw [add_off]
    match j, hj with
    | 0, hj => simp at hj; subst hj; simp
  · intro y hy
    simp at hy
    subst hy
    rfl
  · intro v' w' h1 h2 _ h4
    refine h v' w' ?_ h2 (by rw [World.size_alloc] at h4; exact h4)
    unfold OwnN numCells
    rw [List.map_append, List.length_append]
    exact h1
/-- Of the blocks that were there at most one has turned; a row lies there, or is new. -/
def Pw.OneRow (w : World) (r : Option Nat) (u : Value) (wr : World) : Prop := w.grownBy wr r ∧ (u.ownBlock = r ∨ ∀ q, u.ownBlock = some q → w.heap.size ≤ q)
set_option maxRecDepth 20000 in
theorem oneRow_step {w wr w5 : World} {r : Option Nat} {u v5 : Value} {x : Int} (h : Pw.OneRow w r u wr) (hg : (wr.alloc (.cells #[.int .i64 x] 2)).grownBy w5 u.ownBlock) (hv : v5.ownBlock = u.ownBlock ∨ v5.ownBlock = some (wr.heap.size + 1)) : Pw.OneRow w r v5 w5 := by
  obtain ⟨h1, h2⟩ := h
  have hs := h1.size
  refine ⟨⟨hg.os.trans h1.os, hg.tape.trans h1.tape, hg.output.trans h1.output, Nat.le_trans (Nat.le_trans hs (by rw [World.size_alloc]; omega)) hg.size, fun i hi hr => ?_⟩, ?_⟩
  · refine ((hg.block i (by rw [World.size_alloc]; omega) ?_).trans (heap_alloc_old _ _ _ (by omega))).trans (h1.block i hi hr)
    intro e
    rcases h2 with h2 | h2
    · exact hr (e.trans h2)
    · have := h2 i e.symm
      omega
  · rcases hv with hv | hv
    · rw [hv]; exact h2
    · right
      intro q hq
      rw [hv] at hq
      cases hq
      omega
set_option maxRecDepth 20000 in
set_option maxHeartbeats 2000000 in
theorem implAppendBytes (B : Nat) (v : Value) (C : List Int) (s : ByteArray) (w : World) (hO : OwnN B v C w) (hB : B ≤ w.heap.size) (hl : C.length + s.size ≤ 1000000) :
    Calls Tryz.prog 15 #[v, .string s] w fun e w' => ∃ v', e = .returned v' ∧ OwnN B v' (C ++ Pw.pts s.data.toList) w' ∧ Below B w w' ∧ w.grownBy w' v.ownBlock := by
  have HO0 := mkHid hO
  have HR0 : Hid (Pw.OneRow w v.ownBlock v w) := mkHid ⟨⟨rfl, rfl, rfl, Nat.le_refl _, fun _ _ _ => rfl⟩, .inl rfl⟩
  obtain ⟨r0, hr0⟩ : ∃ r0, v.ownBlock = r0 := ⟨_, rfl⟩
  rw [hr0] at HR0 ⊢
  clear hr0
  obtain ⟨o0, c0, rfl⟩ := hO.shape
  have hll : s.data.toList.length = s.size := by simp
  clear hO
  go_enter Tryz.func15, Tryz.ntmps15
  go_wp2
  go_loopw [0, 8] (fun u iv wr => ∃ k : Nat, iv = .int .i64 k ∧ k ≤ s.size ∧ Hid (OwnN B u (C ++ Pw.pts (s.data.toList.take k)) wr) ∧ Hid (Below B w wr) ∧ Hid (Pw.OneRow w r0 u wr)) (fun _ iv _ => s.size - (Lib.intOf iv).toNat)
  case atStart => exact ⟨0, rfl, Nat.zero_le _, mkHid (by simpa [Pw.pts] using HO0.out), mkHid (Below.refl _ _), HR0⟩
  case round =>
    obtain ⟨k, rfl, hk, HO, Hb, HRw⟩ := hrel
    clear HO0 HR0
    obtain ⟨ob, cb, rfl⟩ := HO.out.shape
    have zr : B ≤ wr.heap.size := Nat.le_trans hB Hb.out.size
    have hlen : (C ++ Pw.pts (s.data.toList.take k)).length ≤ 1000000 := by simp [Pw.pts]; omega
    by_cases hlt : k < s.size
    · have Hsn : Hid (C ++ Pw.pts (s.data.toList.take (k + 1)) = (C ++ Pw.pts (s.data.toList.take k)) ++ [Pw.pt s[k]]) := mkHid (by
        rw [List.take_succ_eq_append_getElem (show k < s.data.toList.length by omega)]
        simp [Pw.pts, ByteArray.getElem_eq_getElem_data])
      have h8 : s[k].toNat < 256 := UInt8.toNat_lt _
      generalize C ++ Pw.pts (s.data.toList.take k) = P at *
      unfold Pw.pt at Hsn
      generalize hsk : s[k] = c at *
      by_cases hc : c.toNat < 128
      · rw [if_pos hc] at Hsn
        go_wp2_with (at_builtin; refine wp_appNa rfl _ _ rfl B (.slice ob P.length cb) P rfl HO.out (c.toNat : Int) _ rfl hlen zr ?_; intro v5 w5 hown5 hg5 hv5; refine Hid.out ?_)
        refine mkHid ?_
        have Hb5 := mkHid (Hb.out.trans (show Below B wr w5 from
          ⟨hg5.os, hg5.tape, hg5.output, Nat.le_trans (by simp) hg5.size, fun j hj => (hg5.block j (by simp; omega) (fun e => by have := (World.ownsRow.lt HO.out j e.symm).1; omega)).trans (heap_alloc_old _ _ _ (by omega))⟩))
        have HR5 := mkHid (oneRow_step HRw.out hg5 hv5)
        clear hg5 hv5
        go_wp2
        go_roundw
        case rel => exact ⟨k + 1, by go_num, by omega, mkHid (by rw [Hsn.out]; exact hown5), Hb5, HR5⟩
        case measure => simp [Lib.intOf]; omega
      · rw [if_neg hc] at Hsn
        go_wp2_with (at_builtin; refine wp_appNa rfl _ _ rfl B (.slice ob P.length cb) P rfl HO.out 65533 _ rfl hlen zr ?_; intro v5 w5 hown5 hg5 hv5; refine Hid.out ?_)
        refine mkHid ?_
        have Hb5 := mkHid (Hb.out.trans (show Below B wr w5 from
          ⟨hg5.os, hg5.tape, hg5.output, Nat.le_trans (by simp) hg5.size, fun j hj => (hg5.block j (by simp; omega) (fun e => by have := (World.ownsRow.lt HO.out j e.symm).1; omega)).trans (heap_alloc_old _ _ _ (by omega))⟩))
        have HR5 := mkHid (oneRow_step HRw.out hg5 hv5)
        clear hg5 hv5
        go_wp2
        go_roundw
        case rel => exact ⟨k + 1, by go_num, by omega, mkHid (by rw [Hsn.out]; exact hown5), Hb5, HR5⟩
        case measure => simp [Lib.intOf]; omega
    · have e : s.data.toList.take k = s.data.toList := List.take_of_length_le (by omega)
      rw [e] at HO ⊢
      go_wp2
      go_ret
      exact ⟨_, rfl, HO.out, Hb.out, HRw.out.1⟩
end Go.Proofs.YtgfgondjpfnmiaaGreatDoor
namespace Go.Proofs.YtgfgondjpfnmiaaGreatDoor
open Go.Lib
namespace Pw
/-- How many bytes that are no blanks stand ahead. -/
def tx : List UInt8 → Nat
  | [] => 0
  | c :: r => if bl c then 0 else tx r + 1
set_option maxRecDepth 20000 in
theorem tx_le : ∀ l : List UInt8, tx l ≤ l.length
  | [] => Nat.le_refl _
  | c :: r => by
    unfold tx
    split
    · exact Nat.zero_le _
    · exact Nat.succ_le_succ (tx_le r)
set_option maxRecDepth 20000 in
theorem gap_tx : ∀ l : List UInt8, l ≠ [] → 1 ≤ gap l + tx (l.drop (gap l))
  | [], h => absurd rfl h
  | c :: r, _ => by
    unfold gap
    by_cases hb : bl c = true
    · rw [if_pos hb]; omega
    · rw [if_neg hb, List.drop_zero]
      unfold tx
      rw [if_neg hb]
      omega
def wd (l : List UInt8) : List UInt8 := (l.drop (gap l)).take (tx (l.drop (gap l)))
def rs (l : List UInt8) : List UInt8 := (l.drop (gap l)).drop (tx (l.drop (gap l)))
set_option maxRecDepth 20000 in
theorem rs_len (l : List UInt8) : (rs l).length + (l.take (gap l)).length + (wd l).length = l.length := by
  have h1 := gap_le l
  have h2 := tx_le (l.drop (gap l))
  unfold rs wd
  simp only [List.length_drop, List.length_take] at h2 ⊢
  omega
set_option maxRecDepth 20000 in
theorem rs_lt (l : List UInt8) (h : l ≠ []) : (rs l).length < l.length := by
  have h1 := gap_tx l h
  have h2 := gap_le l
  have h3 := tx_le (l.drop (gap l))
  unfold rs
  simp only [List.length_drop] at h3 ⊢
  omega
/-- The points of a text, by its length; the truth: a word stands ahead. -/
def rdF : Nat → Bool → List UInt8 → List Int
  | 0, _, _ => []
  | n + 1, b, l => if l = [] then [] else
    match word (wd l) with
    | some ps => (if b then [] else pts (l.take (gap l))) ++ (ps ++ rdF n true (rs l))
    | none => pts (l.take (gap l)) ++ (pts (wd l) ++ rdF n false (rs l))
set_option maxRecDepth 20000 in
theorem rdF_more : ∀ (n m : Nat) (b : Bool) (l : List UInt8), l.length ≤ n → l.length ≤ m → rdF n b l = rdF m b l
  | 0, 0, _, _, _, _ => rfl
  | 0, m + 1, b, l, h, _ => by
    have : l = [] := List.length_eq_zero_iff.1 (by omega)
    subst this
    simp [rdF]
  | n + 1, 0, b, l, _, h => by
    have : l = [] := List.length_eq_zero_iff.1 (by omega)
    subst this
    simp [rdF]
  | n + 1, m + 1, b, l, h1, h2 => by
    by_cases hl : l = []
    · subst hl
      simp [rdF]
    · have := rs_lt l hl
      rw [rdF, rdF, if_neg hl, if_neg hl, rdF_more n m true (rs l) (by omega) (by omega), rdF_more n m false (rs l) (by omega) (by omega)]
def rd (b : Bool) (l : List UInt8) : List Int := rdF l.length b l
set_option maxRecDepth 20000 in
theorem rd_nil (b : Bool) : rd b [] = [] := rfl
set_option maxRecDepth 20000 in
theorem rd_word (b : Bool) (l : List UInt8) (ps : List Int) (hl : l ≠ []) (h : word (wd l) = some ps) : rd b l = (if b then [] else pts (l.take (gap l))) ++ (ps ++ rd true (rs l)) := by
  have h1 := rs_lt l hl
  unfold rd
  rw [rdF_more l.length (l.length - 1 + 1) b l (Nat.le_refl _) (by omega), rdF, if_neg hl, h, rdF_more (l.length - 1) (rs l).length true (rs l) (by omega) (Nat.le_refl _)]
set_option maxRecDepth 20000 in
theorem rd_text (b : Bool) (l : List UInt8) (hl : l ≠ []) (h : word (wd l) = none) : rd b l = pts (l.take (gap l)) ++ (pts (wd l) ++ rd false (rs l)) := by
  have h1 := rs_lt l hl
  unfold rd
  rw [rdF_more l.length (l.length - 1 + 1) b l (Nat.le_refl _) (by omega), rdF, if_neg hl, h, rdF_more (l.length - 1) (rs l).length false (rs l) (by omega) (Nat.le_refl _)]
set_option maxRecDepth 20000 in
theorem dec_len (set : Int) : ∀ (n : Nat) (out : List Int) (l : List UInt8) (ps : List Int), l.length ≤ n → Pd.dec set out l = some ps → ps.length ≤ out.length + l.length
  | n, out, [], ps, _, h => by
    rw [Pd.dec_nil] at h
    cases h
    simp
  | 0, out, a :: r, ps, hn, h => by simp at hn
  | n + 1, out, a :: r, ps, hn, h => by
    rw [Pd.dec] at h
    split at h
    · cases h
    · rename_i p k hk
      have := dec_len set n (out ++ [p]) (r.drop (k - 1)) ps (by simp at hn ⊢; omega) h
      simp at this ⊢
      omega
set_option maxRecDepth 20000 in
theorem quad_len (b : Bool) (x y z u : UInt8) (p : List UInt8) (h : Pu.quad b x y z u = some p) : p.length ≤ 3 := by
  unfold Pu.quad at h
  split at h
  · cases h; simp
  split at h
  · cases h; simp
  split at h
  · cases h; simp
  · cases h
set_option maxRecDepth 20000 in
theorem quads_len : ∀ (l p : List UInt8), Pu.quads l = some p → p.length ≤ l.length
  | [], p, h => by rw [Pu.quads] at h; cases h; simp
  | [_], p, h => by rw [Pu.quads] at h <;> first | (cases h; done) | simp
  | [_, _], p, h => by rw [Pu.quads] at h <;> first | (cases h; done) | simp
  | [_, _, _], p, h => by rw [Pu.quads] at h <;> first | (cases h; done) | simp
  | a :: b :: c :: e :: r, p, h => by
    rw [Pu.quads] at h
    cases hq : Pu.quad r.isEmpty a b c e with
    | none => rw [hq] at h; cases h
    | some x =>
      rw [hq, Option.bind_some] at h
      cases hr : Pu.quads r with
      | none => rw [hr] at h; cases h
      | some y =>
        rw [hr, Option.map_some] at h
        cases h
        have h1 := quad_len _ _ _ _ _ _ hq
        have h2 := quads_len r y hr
        simp only [List.length_append, List.length_cons]
        omega
set_option maxRecDepth 20000 in
theorem un64_len (l p : List UInt8) (h : Pu.un64 l = some p) : p.length ≤ l.length := by
  unfold Pu.un64 at h
  split at h
  · have h1 := quads_len _ _ h
    have h2 := Pu.strip_len l l.length
    rw [List.take_length] at h2
    omega
  · cases h
set_option maxRecDepth 20000 in
theorem wq_len : ∀ (n : Nat) (out l p : List UInt8), l.length ≤ n → wq out l = some p → p.length ≤ out.length + l.length
  | n, out, [], p, _, h => by
    rw [wq] at h
    cases h
    simp
  | 0, out, a :: r, p, hn, h => by simp at hn
  | n + 1, out, c :: r, p, hn, h => by
    have hr : r.length ≤ n := by simp at hn; omega
    rw [wq] at h
    split at h
    · have := wq_len n _ r p hr h
      simp at this ⊢
      omega
    · split at h
      · split at h
        · have := wq_len n _ (r.drop 2) p (by simp; omega) h
          simp at this ⊢
          omega
        · cases h
      · have := wq_len n _ r p hr h
        simp at this ⊢
        omega
set_option maxRecDepth 20000 in
theorem data_len (l t p : List UInt8) (h : data l t = some p) : p.length ≤ t.length := by
  unfold data at h
  split at h
  · exact un64_len _ _ h
  split at h
  · have := wq_len t.length [] t p (Nat.le_refl _) h
    simpa using this
  · cases h
set_option maxRecDepth 20000 in
theorem three_len (a b c : List UInt8) (ps : List Int) (h : three a b c = some ps) : ps.length ≤ c.length := by
  unfold three at h
  cases hd : data b c with
  | none => rw [hd] at h; cases h
  | some d =>
    rw [hd, Option.bind_some] at h
    have h1 := data_len _ _ _ hd
    unfold decA at h
    split at h
    · cases h
    · have := dec_len _ d.length [] d ps (Nat.le_refl _) h
      simp at this
      omega
set_option maxRecDepth 20000 in
theorem word_len (l : List UInt8) (ps : List Int) (h : word l = some ps) : ps.length ≤ l.length := by
  unfold word at h
  split at h
  · rename_i hc
    have e := word_shape l hc.1 hc.2.1
    split at h
    · rename_i a b c he
      have h1 := three_len a b c ps h
      have h2 := Cu.cut_mem 63 (trimSuffix (trimPrefix l [61, 63]) [63, 61]) [] c (by rw [he]; simp)
      have h3 := congrArg List.length e
      simp at h2 h3
      omega
    · cases h
  · cases h
set_option maxRecDepth 20000 in
theorem tx_at : ∀ (l : List UInt8) (k : Nat), (∀ j (h : j < l.length), j < k → bl l[j] = false) → (k = l.length ∨ ∃ h : k < l.length, bl l[k] = true) → tx l = k
  | [], k, _, h => by
    rcases h with h | ⟨h, -⟩
    · simp at h; subst h; rfl
    · simp at h
  | c :: r, 0, _, h => by
    rcases h with h | ⟨h, hb⟩
    · simp at h
    · simp at hb
      unfold tx
      rw [if_pos hb]
  | c :: r, k + 1, h1, h => by
    have hc : bl c = false := h1 0 (by simp) (by omega)
    unfold tx
    rw [hc, if_neg (by decide)]
    congr 1
    refine tx_at r k (fun j hj hk => ?_) ?_
    · exact h1 (j + 1) (by simp; omega) (by omega)
    · rcases h with h | ⟨h, hb⟩
      · left; simp at h; omega
      · right; exact ⟨by simp at h; omega, by simpa using hb⟩
set_option maxRecDepth 20000 in
theorem gap_at : ∀ (l : List UInt8) (k : Nat), (∀ j (h : j < l.length), j < k → bl l[j] = true) → (k = l.length ∨ ∃ h : k < l.length, bl l[k] = false) → gap l = k
  | [], k, _, h => by
    rcases h with h | ⟨h, -⟩
    · simp at h; subst h; rfl
    · simp at h
  | c :: r, 0, _, h => by
    rcases h with h | ⟨h, hb⟩
    · simp at h
    · simp at hb
      unfold gap
      rw [hb, if_neg (by decide)]
  | c :: r, k + 1, h1, h => by
    have hc : bl c = true := h1 0 (by simp) (by omega)
    unfold gap
    rw [if_pos hc]
    congr 1
    refine gap_at r k (fun j hj hk => ?_) ?_
    · exact h1 (j + 1) (by simp; omega) (by omega)
    · rcases h with h | ⟨h, hb⟩
      · left; simp at h; omega
      · right; exact ⟨by simp at h; omega, by simpa using hb⟩
set_option maxRecDepth 20000 in
/-- Where the first blank is, by the library's words. -/
theorem index_tx (l : List UInt8) : indexAny l [32, 9] = if tx l = l.length then -1 else (tx l : Int) := by
  induction l with
  | nil => rfl
  | cons c r ih =>
    have hb : ([32, 9] : List UInt8).contains c = bl c := by
      by_cases h1 : c = 32 <;> by_cases h2 : c = 9 <;> simp [bl, h1, h2]
    rw [indexAny, hb, ih]
    by_cases hc : bl c = true
    · have ht : tx (c :: r) = 0 := by
        unfold tx
        rw [if_pos hc]
      rw [if_pos hc, ht, if_neg (by rw [List.length_cons]; omega)]
      rfl
    · have ht : tx (c :: r) = tx r + 1 := by
        conv => lhs; unfold tx
        rw [if_neg hc]
      have hle := tx_le r
      rw [if_neg hc, ht]
      by_cases h : tx r = r.length
      · rw [if_pos h, if_pos (by rfl), if_pos (by rw [List.length_cons, h])]
      · rw [if_neg h, if_neg (by intro e; have := beq_iff_eq.1 e; omega), if_neg (by rw [List.length_cons]; omega)]
        omega
end Pw
end Go.Proofs.YtgfgondjpfnmiaaGreatDoor
