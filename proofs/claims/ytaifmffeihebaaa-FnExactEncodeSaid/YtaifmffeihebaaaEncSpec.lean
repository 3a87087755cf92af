/- Encode, the specification's side. -/
import Derived.Test.YtaifmffeihebaaaEncForm
namespace Go.Proofs.Ytaifmffeihebaaa
open Go.RowKit Go.Lib Go.Maps
/-- An append of bytes that lie in a slice of their own. -/
theorem wp_appo {P : Program} {W w : World} {ops : Array Oper} {rest : List Oper} {o : Oper} {a : Act} {Q : Exit → Act → World → Prop} (hgd : o.guard = none) (s x : Operand) (t : TypeId)
    (ho : o.op = .call { callee := .builtin .append, args := #[s, x], argTypes := #[t, t] })
    (i : TypeInfo) (ht : P.underlying t = some (.slice 5)) (hi : P.info? 5 = some i) (hz : i.zero = some (.int .u8 0)) (hsize : i.size = 1) (hby : i.bytes = 1)
    (B : Nat) (v : Value) (p : List UInt8) (hs : a.eval s = v) (hown : Own B v p w) (B2 : Nat) (v2 : Value) (news : List UInt8) (hx : a.eval x = v2) (hown2 : Own B2 v2 news w) (hne : news ≠ [])
    (hlen : p.length + news.length ≤ 140737488355328) (hB : B ≤ W.heap.size) (hb : Below B W w)
    (h : ∀ v' w', Own B v' (p ++ news) w' → Below B W w' → wpList P ops Q rest (a.put o.dst v') w') : wpList P ops Q (o :: rest) a w := by
  have hsz := hb.size
  rcases hown2.form with ⟨-, h0⟩ | ⟨g, cap, rfl⟩
  · exact absurd h0 hne
  refine wpList_append_own _ hgd s x t ho B 5 i (.int .u8 0) 1 1 ht hi hz hsize hby rfl (by decide) v p.length (byteCells p) hs hown ⟨g, 0, none⟩ news.length cap (byteCells news) hx
    (by rw [byteCells_length, Nat.mul_one]) ?_ ?_ (by unfold maxLen; omega) (by omega) (by omega) ?_
  · intro j u hj
    have hj2 : j < news.length := by
      have := (List.getElem?_eq_some_iff.1 hj).1
      simpa [byteCells_length] using this
    rw [add_off, hown2.cell j hj2]
    simpa [byteCells, hj2] using hj
  · intro u hu
    simp only [byteCells, List.mem_map] at hu
    obtain ⟨b, -, rfl⟩ := hu
    rfl
  · intro v' w' h1 h2 _
    refine h v' w' ?_ ?_
    · unfold Own
      rw [byteCells_append, List.length_append]
      exact h1
    · exact hb.grown h2 (by omega) (fun k hk => (World.ownsRow.lt hown k hk).1)
theorem Own.keepb {B : Nat} {v : Value} {p : List UInt8} {w w' : World} (h : Own B v p w) (hb : Below w.heap.size w w') : Own B v p w' := by
  obtain ⟨h1, h2⟩ := h
  refine ⟨h1, ?_⟩
  rcases h2 with h2 | ⟨g, cap, cur, e1, e2, e3, e4⟩
  · exact .inl h2
  · refine .inr ⟨g, cap, cur, e1, e2, ?_, e4⟩
    rw [hb.block g (heap_lt e3)]
    exact e3
/-- Encode's way out, the specification's. -/
theorem retS (w wr : World) (tmps : Array Value) (cs : Array Value) (p0 : Nat) (hp0 : Try.f4.results = #[.cell p0 24]) (hp : tmps.getD p0 undef = .pointer (some ⟨w.heap.size, 0, none⟩)) {old : Array Value} (hres : wr.heap[w.heap.size]? = some (.cells old 24 (0, 0))) (hb : Below w.heap.size w wr) (h2 : cs.size = 2 := by rfl) :
    bodyPost Try.prog Try.f4 (fun e w' => e = .returned (.agg cs) ∧ Below w.heap.size w w') Exit.ret { tmps := tmps, defers := [] } (wr.setRow w.heap.size cs) := by
  refine bodyPost_ret (v := .agg cs) (results_cell_row hp0 _ _ w.heap.size 24 _ (0, 0) _ hp (setRow_heap _ _ _ _ _ _ hres) Try.underlying24 rfl ?_) rfl ⟨rfl, hb.grown (grown_setRow _ _ _) hb.size (fun j hj => by cases hj; exact Nat.le_refl _)⟩
  rw [h2]
  kernel_rfl
set_option maxHeartbeats 1000000 in
theorem specEncode (set : Int) (o : Option Addr) (ps : List Int) (cap : Nat) (w : World) (hF : Ints w.heap.size w o ps) (hlen : ps.length ≤ 1048576) :
    Calls Try.prog 4 #[.int .i64 set, .slice o ps.length cap] w fun e w' => e = .returned (encV (encA set ps)) ∧ Below w.heap.size w w' := by
  unfold encA
  have hres0 : (w.alloc (.cells #[.bool false, .string ⟨#[]⟩] 24)).heap[w.heap.size]? = some (.cells #[.bool false, .string ⟨#[]⟩] 24 (0, 0)) := heap_alloc_at _ _
  have hbel0 : Below w.heap.size w (w.alloc (.cells #[.bool false, .string ⟨#[]⟩] 24)) := (Below.refl _ _).alloc (Nat.le_refl _) _
  by_cases hl : 100000 < ps.length
  · rw [if_pos (by omega)]
    clear hF
    go_enter Try.func4, Try.ntmps4
    go_wp2_with (first | (refine wpL_store_row rfl 24 _ _ rfl w.heap.size #[.bool false, .string ⟨#[]⟩] rfl rfl 24 _ hres0 (by kernel_rfl) rfl (by simp [Value.oneCell']) ?_) | go_in)
    exact retS _ _ _ _ 4 Try.results4 rfl hres0 hbel0
  · by_cases h : set < 1 ∨ 5 < set
    · rw [if_pos (by omega)]
      clear hF
      go_enter Try.func4, Try.ntmps4
      go_wp2_with fail
      refine (specName set _).mono ?_
      rintro e w2 ⟨t, rfl, ht, rfl⟩
      rw [decide_eq_true h] at ht
      go_wp2_with (first | (refine wpL_store_row rfl 24 _ _ rfl w.heap.size #[.bool false, .string ⟨#[]⟩] rfl rfl 24 _ hres0 (by kernel_rfl) rfl (by simp [Value.oneCell']) ?_) | go_in)
      exact retS _ _ _ _ 4 Try.results4 rfl hres0 hbel0
    · rw [if_neg (by omega)]
      go_enter Try.func4, Try.ntmps4
      go_wp2_with fail
      refine (specName set _).mono ?_
      rintro e w2 ⟨t, rfl, ht, rfl⟩
      rw [decide_eq_false h] at ht
      have hsz0 : (w.alloc (.cells #[.bool false, .string ⟨#[]⟩] 24)).heap.size = w.heap.size + 1 := by simp
      obtain ⟨i0, hi, hy0, hy1, hy2⟩ := info_parts Try.info5
      have HW : Hid (Ints (w.alloc (.cells #[.bool false, .string ⟨#[]⟩] 24)).heap.size (w.alloc (.cells #[.bool false, .string ⟨#[]⟩] 24)) o ps) := show _ from (hF.below hbel0).mono hbel0.size
      clear hF
      have hset : 1 ≤ set ∧ set ≤ 5 := by omega
      have hlen2 : ps.length ≤ 100000 := by omega
      clear hl h hlen
      go_wp2
      clear ht
      obtain ⟨W, hW⟩ : ∃ W, W = w.alloc (.cells #[.bool false, .string ⟨#[]⟩] 24) := ⟨_, rfl⟩
      rw [← hW] at hres0 hbel0 hsz0 HW ⊢
      have hown0 := Own.made W.heap.size W (Nat.le_refl _)
      rw [show (⟨W.heap.size, 0, none⟩ : Addr) = ⟨w.heap.size + 1, 0, none⟩ by rw [hsz0]] at hown0
      have hbW0 : Below W.heap.size W (W.alloc (.cells #[] 5)) := (Below.refl _ _).alloc (Nat.le_refl _) _
      go_loopw [5, 6] (fun v i wr => ∃ (k : Nat) (p : List UInt8), k ≤ ps.length ∧ i = .int .i64 k ∧ p.length ≤ 4 * k ∧ Hid (Pl.enc (Pl.form set) p (ps.drop k) = Pl.enc (Pl.form set) [] ps) ∧ Own W.heap.size v p wr ∧ Below W.heap.size W wr) (fun _ i _ => ps.length - (Lib.intOf i).toNat)
      case atStart => exact ⟨0, [], Nat.zero_le _, rfl, by simp, rfl, hown0, hbW0⟩
      case round =>
        obtain ⟨k, p, hk, rfl, hpl, hp, hown, hb⟩ := hrel
        have hres := (hb.block w.heap.size (by omega)).trans hres0
        have hbw := hbel0.trans (hb.mono hbel0.size)
        by_cases hlt : k < ps.length
        · obtain ⟨a, rfl, ha, hc0⟩ := (HW.out.below hb) k hlt
          have Hbad : Hid (Pl.form set ps[k] = [] → Pl.enc (Pl.form set) [] ps = none) := show _ → _ from fun h => Pl.enc_bad hlt h hp.out
          have Hstep : Hid (Pl.form set ps[k] ≠ [] → Pl.enc (Pl.form set) (p ++ Pl.form set ps[k]) (ps.drop (k + 1)) = Pl.enc (Pl.form set) [] ps) := show _ → _ from fun h => Pl.enc_step hlt h hp.out
          have Hfl := Pl.form_len set ps[k]
          clear hp
          generalize ps[k] = pt at hc0 Hbad Hstep Hfl
          have hfo := specForm set pt hset wr
          go_wp2_with fail
          refine hfo.mono ?_
          rintro e w3 ⟨v3, rfl, hown3, hb3⟩
          clear hfo
          have hbW3 := hb.trans (hb3.mono hb.size)
          have hown' := hown.keepb hb3
          have hres3 := (hbW3.block w.heap.size (by omega)).trans hres0
          have hbw3 := hbel0.trans (hbW3.mono hbel0.size)
          by_cases hnil : Pl.form set pt = []
          · have hE : Hid (Pl.enc (Pl.form set) [] ps = none) := Hbad.out hnil
            obtain ⟨o3, c3, rfl⟩ := hown3.flat
            rw [hnil]
            clear Hbad Hstep
            go_wp2_with (first | (refine wpL_store_row rfl 24 _ _ rfl w.heap.size #[.bool false, .string ⟨#[]⟩] rfl rfl 24 _ hres3 (by kernel_rfl) rfl (by simp [Value.oneCell']) ?_) | go_in)
            rw [hE.out]
            exact retS _ _ _ _ 4 Try.results4 rfl hres3 hbw3
          · have hE : Hid (Pl.enc (Pl.form set) (p ++ Pl.form set pt) (ps.drop (k + 1)) = Pl.enc (Pl.form set) [] ps) := Hstep.out hnil
            have hl1 : 0 < (Pl.form set pt).length := List.length_pos_iff.2 hnil
            have Hown3 : Hid (Own wr.heap.size v3 (Pl.form set pt) w3) := hown3
            obtain ⟨o3, c3, rfl⟩ := hown3.flat
            generalize Pl.form set pt = news at Hfl hE hl1 Hown3 hnil
            have hne : ¬ ((news.length : Int) = 0) := by omega
            clear Hbad Hstep hown3 hown
            go_wp2_with (at_builtin; go_must (refine wp_appo (W := W) rfl _ _ 31 rfl i0 Try.underlying31 hi hy0 hy1 hy2 W.heap.size _ p rfl hown' wr.heap.size _ news rfl Hown3.out hnil (by omega) (Nat.le_refl _) hbW3 ?_; intro v4 w4 hown4 hb4))
            go_roundw
            case rel => exact ⟨k + 1, _, by omega, by go_num, by rw [List.length_append]; omega, hE, hown4, hb4⟩
            case measure => simp [Lib.intOf]; omega
        · have hpn : Hid (Pl.enc (Pl.form set) [] ps = some p) := show _ = _ from Pl.enc_done (by omega) hp.out
          clear hp
          have hbk := hown.back (P := Try.prog) 31 9 Try.underlying31 Try.underlying5 Try.underlying9
          go_wp2_with (first | (refine wpL_store_row rfl 24 _ _ rfl w.heap.size #[.bool true, .string ⟨p.toArray⟩] rfl rfl 24 _ hres (by kernel_rfl) rfl (by simp [Value.oneCell']) ?_) | go_in)
          rw [hpn.out]
          exact retS _ _ _ _ 4 Try.results4 rfl hres hbw
end Go.Proofs.Ytaifmffeihebaaa
