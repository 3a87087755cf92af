
/- Encode, the program's side: the loop over any set that puts points; each of the sets. -/
import Derived.Test.YtgbhckokdjhpjaaDoorPuts
namespace Go.Proofs.YtgbhckokdjhpjaaDoor
open Go.RowKit Go.Lib Go.Maps
/-- A set, as an interface value in the world W: it puts points behind bytes. -/
structure Putter (set : Int) (T : TypeId) (rv : Value) (f : FuncId) (O : Value → List UInt8 → World → Prop) (W : World) : Prop where
  meth : ∀ w, (method 184 T rv "loop.example/g00013/impl.put").run Tryd.prog w = .ok (f, rv) w
  enters : ∀ (args : Array Value) (w : World), (callFunc f args).run Tryd.prog w = .ok (.enter f args) w
  start : ∀ w, O (.slice none 0 0) [] w
  shape : ∀ v p w, O v p w → ∃ o cap, v = .slice o p.length cap
  put : ∀ pt v p w, Pl.isPt pt = true → O v p w → p.length ≤ 500000 → Below W.heap.size W w → Calls Tryd.prog f #[rv, v, .int .i64 pt] w fun e w' => ∃ v', e = .returned v' ∧ O v' (p ++ Pl.form set pt) w' ∧ Below W.heap.size W w'
  back : ∀ v p w, O v p w → (convert 27 9 v).run Tryd.prog w = .ok (.string ⟨p.toArray⟩) w
/-- Encode's way out. -/
theorem retV (w wr : World) (tmps : Array Value) (cs : Array Value) (hp : tmps.getD 4 undef = .pointer (some ⟨w.heap.size, 0, none⟩)) {old : Array Value} (hres : wr.heap[w.heap.size]? = some (.cells old 33 (0, 0))) (hb : Below w.heap.size w wr) (h2 : cs.size = 2 := by rfl) :
    bodyPost Tryd.prog Tryd.f12 (fun e w' => e = .returned (.agg cs) ∧ Below w.heap.size w w') Exit.ret { tmps := tmps, defers := [] } (wr.setRow w.heap.size cs) := by
  refine bodyPost_ret (v := .agg cs) (results_cell_row Tryd.results12 _ _ w.heap.size 33 _ (0, 0) _ hp (setRow_heap _ _ _ _ _ _ hres) Tryd.underlying33 rfl ?_) rfl ⟨rfl, hb.grown (grown_setRow _ _ _) hb.size (fun j hj => by cases hj; exact Nat.le_refl _)⟩
  rw [h2]
  kernel_rfl
set_option maxHeartbeats 1000000 in
theorem implEnc (set : Int) (o : Option Addr) (ps : List Int) (cap : Nat) (w : World) (hF : Ints w.heap.size w o ps) (hlen : ps.length ≤ 100000)
    (hch : ∀ w, Calls Tryd.prog 18 #[.int .i64 set] w fun e W => ∃ T rv f O, e = .returned (.iface T rv) ∧ Below w.heap.size w W ∧ Putter set T rv f O W) :
    Calls Tryd.prog 12 #[.int .i64 set, .slice o ps.length cap] w fun e w' => e = .returned (encV (Pl.enc (Pl.form set) [] ps)) ∧ Below w.heap.size w w' := by
  have HF : Hid (Ints w.heap.size w o ps) := hF
  clear hF
  go_enter Tryd.func12, Tryd.ntmps12
  go_wp2_with fail
  refine (hch _).mono ?_
  rintro e W ⟨T, rv, f, O, rfl, hbW, hP⟩
  have HP : Hid (Putter set T rv f O W) := hP
  have hm := hP.meth
  have hE := hP.enters
  clear hP hch
  have hres0 : W.heap[w.heap.size]? = some (.cells #[.bool false, .string ⟨#[]⟩] 33 (0, 0)) := (hbW.block _ (by simp)).trans (heap_alloc_at _ _)
  have hbel0 : Below w.heap.size w W := ((Below.refl _ _).alloc (Nat.le_refl _) _).trans (hbW.mono (by simp))
  have hsz0 : w.heap.size + 1 ≤ W.heap.size := by have := hbW.size; simpa using this
  have HW : Hid (Ints W.heap.size W o ps) := show _ from (HF.out.below hbel0).mono hbel0.size
  clear hbW HF
  go_wp2
  go_loopw [6, 22] (fun v i wr => ∃ (k : Nat) (p : List UInt8), k ≤ ps.length ∧ i = .int .i64 k ∧ p.length ≤ 4 * k ∧ Hid (Pl.enc (Pl.form set) p (ps.drop k) = Pl.enc (Pl.form set) [] ps) ∧ O v p wr ∧ Below W.heap.size W wr) (fun _ i _ => ps.length - (Lib.intOf i).toNat)
  case atStart => exact ⟨0, [], Nat.zero_le _, rfl, by simp, rfl, HP.out.start _, Below.refl _ _⟩
  case round =>
    obtain ⟨k, p, hk, rfl, hpl, hp, hown, hb⟩ := hrel
    have hres := (hb.block w.heap.size (by omega)).trans hres0
    have hbw := hbel0.trans (hb.mono hbel0.size)
    by_cases hlt : k < ps.length
    · obtain ⟨a, rfl, ha, hc0⟩ := (HW.out.below hb) k hlt
      have Hbad : Hid (Pl.form set ps[k] = [] → Pl.enc (Pl.form set) [] ps = none) := show _ → _ from fun h => Pl.enc_bad hlt h hp.out
      have Hstep : Hid (Pl.form set ps[k] ≠ [] → Pl.enc (Pl.form set) (p ++ Pl.form set ps[k]) (ps.drop (k + 1)) = Pl.enc (Pl.form set) [] ps) := show _ → _ from fun h => Pl.enc_step hlt h hp.out
      have Hfl := Pl.form_len set ps[k]
      clear hp
      generalize ps[k] = pt at hc0 Hbad Hstep Hfl
      cases hpt : Pl.isPt pt
      · have hE : Hid (Pl.enc (Pl.form set) [] ps = none) := Hbad.out (by unfold Pl.form; rw [if_pos hpt])
        have hisp := implPoint pt wr
        rw [hpt] at hisp
        clear Hbad Hstep hpt
        go_wp2_with fail
        refine hisp.mono ?_
        rintro e w3 ⟨rfl, rfl⟩
        go_wp2_with (first | (refine wpL_store_row rfl 33 _ _ rfl w.heap.size #[.bool false, .string ⟨#[]⟩] rfl rfl 33 _ hres (by kernel_rfl) rfl (by simp [Value.oneCell']) ?_) | go_in)
        rw [hE.out]
        exact retV _ _ _ _ rfl hres hbw
      · have hisp := implPoint pt wr
        rw [hpt] at hisp
        have hput := HP.out.put pt _ p wr hpt hown (by omega) hb
        go_wp2_with fail
        refine hisp.mono ?_
        rintro e w3 ⟨rfl, rfl⟩
        obtain ⟨og, cp, rfl⟩ := HP.out.shape _ _ _ hown
        go_wp2_with fail
        refine hput.mono ?_
        rintro e w4 ⟨v4, rfl, hown4, hb4⟩
        clear hput
        have hres4 := (hb4.block w.heap.size (by omega)).trans hres0
        have hbw4 := hbel0.trans (hb4.mono hbel0.size)
        obtain ⟨o4, cp4, rfl⟩ := HP.out.shape _ _ _ hown4
        by_cases hnil : Pl.form set pt = []
        · have hE : Hid (Pl.enc (Pl.form set) [] ps = none) := Hbad.out hnil
          rw [hnil, List.append_nil]
          clear Hbad Hstep
          go_wp2_with (first | (refine wpL_store_row rfl 33 _ _ rfl w.heap.size #[.bool false, .string ⟨#[]⟩] rfl rfl 33 _ hres4 (by kernel_rfl) rfl (by simp [Value.oneCell']) ?_) | go_in)
          rw [hE.out]
          exact retV _ _ _ _ rfl hres4 hbw4
        · have hE : Hid (Pl.enc (Pl.form set) (p ++ Pl.form set pt) (ps.drop (k + 1)) = Pl.enc (Pl.form set) [] ps) := Hstep.out hnil
          have hl1 : 0 < (Pl.form set pt).length := List.length_pos_iff.2 hnil
          obtain ⟨L, hL⟩ : ∃ L, L = (p ++ Pl.form set pt).length := ⟨_, rfl⟩
          have hLl : p.length < L ∧ L ≤ p.length + 4 := by rw [hL, List.length_append]; omega
          have hLd : ((L : Int) == (p.length : Int)) = false := by simp; omega
          have Hown4 : Hid (O (.slice o4 L cp4) (p ++ Pl.form set pt) w4) := show _ from by rw [hL]; exact hown4
          have HL : Hid (L = (p ++ Pl.form set pt).length) := hL
          rw [← hL]
          clear hown4 hL hown Hbad Hstep hnil
          go_wp2
          go_roundw
          case rel => exact ⟨k + 1, _, by omega, by go_num, by rw [← HL.out]; omega, hE, Hown4.out, hb4⟩
          case measure => simp [Lib.intOf]; omega
    · have hpn : Hid (Pl.enc (Pl.form set) [] ps = some p) := show _ = _ from Pl.enc_done (by omega) hp.out
      clear hp
      have hbk := HP.out.back _ _ _ hown
      go_wp2_with (first | (refine wpL_store_row rfl 33 _ _ rfl w.heap.size #[.bool true, .string ⟨p.toArray⟩] rfl rfl 33 _ hres (by kernel_rfl) rfl (by simp [Value.oneCell']) ?_) | go_in)
      rw [hpn.out]
      exact retV _ _ _ _ rfl hres hbw
theorem Own.flat {B : Nat} {v : Value} {p : List UInt8} {w : World} (h : Own B v p w) : ∃ o cap, v = .slice o p.length cap := by
  rcases h.form with ⟨rfl, rfl⟩ | ⟨g, cap, rfl⟩
  · exact ⟨none, 0, rfl⟩
  · exact ⟨_, cap, rfl⟩
theorem OwF.flat {B : Nat} {v : Value} {p : List UInt8} {w : World} (h : OwF B v p w) : ∃ o cap, v = .slice o p.length cap := by
  rcases h.2 with ⟨rfl, h0⟩ | ⟨g, cap, cur, fz, rfl, -⟩
  · exact ⟨none, 0, by rw [h0]⟩
  · exact ⟨_, cap, rfl⟩
theorem OwF.back {P : Program} {B : Nat} {v : Value} {p : List UInt8} {w : World} (h : OwF B v p w) (src dst : TypeId) (hs : P.underlying src = some (.slice 5)) (he : P.underlying 5 = some (.int .u8)) (hd : P.underlying dst = some .string) :
    (convert src dst v).run P w = .ok (.string ⟨p.toArray⟩) w := by
  rcases h.2 with ⟨rfl, h0⟩ | ⟨g, cap, cur, fz, rfl, -⟩
  · obtain rfl := List.length_eq_zero_iff.1 h0
    have := run_convert_bytes_string (P := P) w src dst 5 none 0 0 hs he hd
    rw [this]; rfl
  · refine run_convert_bytes_back w src dst 5 ⟨g, 0, none⟩ cap p hs he hd (fun j hj => ?_)
    exact World.ownsRowF.cells h (g := g) rfl j (.int .u8 (p[j].toNat : Int)) (by simp [byteCells, hj])
theorem isPt_range {p : Int} (h : Pl.isPt p = true) : 0 ≤ p ∧ p ≤ 1114111 := by
  simp only [Pl.isPt, Bool.and_eq_true, decide_eq_true_eq] at h
  omega
theorem putter12 (set top : Int) (hs : set = 1 ∧ top = 127 ∨ set = 2 ∧ top = 255) (W : World) : Putter set 46 (.agg #[.int .i64 top]) 47 (Own W.heap.size) W where
  meth := fun _ => by kernel_rfl
  enters := enters_of Tryd.func47 (by kernel_rfl) rfl
  start := Own.nil _
  shape := fun _ _ _ h => h.flat
  put := fun pt v p w hpt hown hl hb => by
    have hr := isPt_range hpt
    refine (implPutB top pt hr.1 (by omega) (by omega) v p _ W w hown (by omega) (Nat.le_refl _) hb).mono ?_
    rintro e w' ⟨v', rfl, h1, h2⟩
    refine ⟨v', rfl, ?_, h2⟩
    have : Pl.form set pt = if pt ≤ top then [Pl.by8 pt] else [] := by
      unfold Pl.form
      rw [if_neg (by rw [hpt]; simp)]
      rcases hs with ⟨rfl, rfl⟩ | ⟨rfl, rfl⟩
      · rw [if_pos rfl]
        by_cases h : pt < 128
        · rw [if_pos h, if_pos (by omega)]
        · rw [if_neg h, if_neg (by omega)]
      · rw [if_neg (by decide), if_pos rfl]
        by_cases h : pt < 256
        · rw [if_pos h, if_pos (by omega)]
        · rw [if_neg h, if_neg (by omega)]
    rw [this]
    exact h1
  back := fun _ _ _ h => h.back 27 9 Tryd.underlying27 Tryd.underlying5 Tryd.underlying9
theorem putter3 (m1 m2 : Nat) (W : World) (hN : Nine W m1 m2) : Putter 3 50 (.agg #[.map (some m1), .map (some m2)]) 49 (Own W.heap.size) W where
  meth := fun _ => by kernel_rfl
  enters := enters_of Tryd.func49 (by kernel_rfl) rfl
  start := Own.nil _
  shape := fun _ _ _ h => h.flat
  put := fun pt v p w hpt hown hl hb => by
    have hr := isPt_range hpt
    refine (implPut3 pt hr.1 hr.2 v p m1 m2 W w hown (by omega) hb (hN.below hb)).mono ?_
    rintro e w' ⟨v', rfl, h1, h2⟩
    refine ⟨v', rfl, ?_, h2⟩
    unfold Pl.form
    rw [if_neg (by rw [hpt]; simp), if_neg (by decide), if_neg (by decide), if_pos rfl]
    exact h1
  back := fun _ _ _ h => h.back 27 9 Tryd.underlying27 Tryd.underlying5 Tryd.underlying9
theorem putter4 (W : World) : Putter 4 53 (.agg #[]) 51 (OwF W.heap.size) W where
  meth := fun _ => by kernel_rfl
  enters := enters_of Tryd.func51 (by kernel_rfl) rfl
  start := fun w => World.ownsRowF_nil w _ _ _
  shape := fun _ _ _ h => h.flat
  put := fun pt v p w hpt hown hl hb => implPut4 pt hpt v p _ W w hown (by omega) (Nat.le_refl _) hb
  back := fun _ _ _ h => h.back 27 9 Tryd.underlying27 Tryd.underlying5 Tryd.underlying9
theorem putter5 (W : World) : Putter 5 54 (.agg #[]) 55 (Own W.heap.size) W where
  meth := fun _ => by kernel_rfl
  enters := enters_of Tryd.func55 (by kernel_rfl) rfl
  start := Own.nil _
  shape := fun _ _ _ h => h.flat
  put := fun pt v p w hpt hown hl hb => implPut5 pt hpt v p _ W w hown (by omega) (Nat.le_refl _) hb
  back := fun _ _ _ h => h.back 27 9 Tryd.underlying27 Tryd.underlying5 Tryd.underlying9
/-- What both sides answer to a set and points. -/
def encA (set : Int) (ps : List Int) : Option (List UInt8) := if set < 1 ∨ 5 < set ∨ 100000 < ps.length then none else Pl.enc (Pl.form set) [] ps
set_option maxHeartbeats 1000000 in
theorem implEncode (set : Int) (o : Option Addr) (ps : List Int) (cap : Nat) (w : World) (hF : Ints w.heap.size w o ps) (hlen : ps.length ≤ 1048576) :
    Calls Tryd.prog 12 #[.int .i64 set, .slice o ps.length cap] w fun e w' => e = .returned (encV (encA set ps)) ∧ Below w.heap.size w w' := by
  unfold encA
  by_cases h : set < 1 ∨ 5 < set
  · rw [if_pos (by omega)]
    have hres0 : (w.alloc (.cells #[.bool false, .string ⟨#[]⟩] 33)).heap[w.heap.size]? = some (.cells #[.bool false, .string ⟨#[]⟩] 33 (0, 0)) := heap_alloc_at _ _
    clear hF
    go_enter Tryd.func12, Tryd.ntmps12
    go_wp2_with fail
    refine (implChars0 set _ h).mono ?_
    rintro e w2 ⟨rfl, rfl⟩
    go_wp2_with (first | (refine wpL_store_row rfl 33 _ _ rfl w.heap.size #[.bool false, .string ⟨#[]⟩] rfl rfl 33 _ hres0 (by kernel_rfl) rfl (by simp [Value.oneCell']) ?_) | go_in)
    exact retV _ _ _ _ rfl hres0 ((Below.refl _ _).alloc (Nat.le_refl _) _)
  · have hch : ∀ w, Calls Tryd.prog 18 #[.int .i64 set] w fun e W => ∃ T rv f O, e = .returned (.iface T rv) ∧ Below w.heap.size w W ∧ Putter set T rv f O W := by
      intro w
      have hset : set = 1 ∨ set = 2 ∨ set = 3 ∨ set = 4 ∨ set = 5 := by omega
      rcases hset with rfl | rfl | rfl | rfl | rfl
      · refine (implChars1 w).mono ?_
        rintro e W ⟨rfl, rfl⟩
        exact ⟨_, _, _, _, rfl, Below.refl _ _, putter12 1 127 (.inl ⟨rfl, rfl⟩) _⟩
      · refine (implChars2 w).mono ?_
        rintro e W ⟨rfl, rfl⟩
        exact ⟨_, _, _, _, rfl, Below.refl _ _, putter12 2 255 (.inr ⟨rfl, rfl⟩) _⟩
      · refine (implChars3 w).mono ?_
        rintro e W ⟨m1, m2, rfl, hN, -, -, hb⟩
        exact ⟨_, _, _, _, rfl, hb, putter3 m1 m2 W hN⟩
      · refine (implChars4 w).mono ?_
        rintro e W ⟨rfl, rfl⟩
        exact ⟨_, _, _, _, rfl, Below.refl _ _, putter4 _⟩
      · refine (implChars5 w).mono ?_
        rintro e W ⟨rfl, rfl⟩
        exact ⟨_, _, _, _, rfl, Below.refl _ _, putter5 _⟩
    by_cases hl : 100000 < ps.length
    · rw [if_pos (by omega)]
      clear hF
      go_enter Tryd.func12, Tryd.ntmps12
      go_wp2_with fail
      refine (hch _).mono ?_
      rintro e W ⟨T, rv, f, O, rfl, hbW, hP⟩
      have hres0 : W.heap[w.heap.size]? = some (.cells #[.bool false, .string ⟨#[]⟩] 33 (0, 0)) := (hbW.block _ (by simp)).trans (heap_alloc_at _ _)
      have hbel0 : Below w.heap.size w W := ((Below.refl _ _).alloc (Nat.le_refl _) _).trans (hbW.mono (by simp))
      go_wp2_with (first | (refine wpL_store_row rfl 33 _ _ rfl w.heap.size #[.bool false, .string ⟨#[]⟩] rfl rfl 33 _ hres0 (by kernel_rfl) rfl (by simp [Value.oneCell']) ?_) | go_in)
      exact retV _ _ _ _ rfl hres0 hbel0
    · rw [if_neg (by omega)]
      exact implEnc set o ps cap w hF (by omega) hch
end Go.Proofs.YtgbhckokdjhpjaaDoor
