/- WriteContent, on both sides. -/
import Derived.Test.YtpjpnjbegjiegaaDoorSpecParam
import Derived.Test.YtpjpnjbegjiegaaDoorContFault
namespace Go.Proofs.YtpjpnjbegjiegaaDoor
open Go.RowKit Go.Lib
namespace Pl
def parT (F : List Fd) : List UInt8 := F.flatMap fun f => paramT f.1.data.toList f.2.data.toList
def contT (T S : ByteArray) (F : List Fd) : List UInt8 := T.data.toList ++ (if S.size = 0 then [] else 47 :: S.data.toList) ++ parT F
open Classical in
noncomputable def writeT (T S : ByteArray) (F : List Fd) : ByteArray := if okC T S F ∧ (contT T S F).length ≤ 100000 then mkB (contT T S F) else ⟨#[]⟩
theorem emit_len (name : List UInt8) (hn : name.length ≤ 1000) : ∀ (C : List (List UInt8)) (k : Nat), k + C.length ≤ 100 → (∀ x ∈ C, x.length ≤ 60) → (emit name k C).length ≤ 1100 * C.length
  | [], _, _, _ => by simp [emit]
  | x :: r, k, h, hx => by
    have h1 := named_len name k x (by simp at h; omega) hn (hx x (by simp))
    have h2 := emit_len name hn r (k + 1) (by simp at h; omega) (fun y hy => hx y (by simp [hy]))
    rw [emit_cons, List.length_append, List.length_cons]
    omega
theorem paramT_len (name v : List UInt8) (hn : name.length ≤ 1000) (hv : v.length ≤ 1000) : (paramT name v).length ≤ 120000 := by
  have hq := qs_len v
  have hc := cut_count v []
  have hl := cut_le v [] (by simp)
  simp only [List.length_nil] at hc
  unfold paramT utf
  split
  · simp only [List.length_append, List.length_cons, List.length_nil]
    omega
  · split
    · simp only [List.length_append, List.length_cons, List.length_nil]
      omega
    · split
      · have : ((cut v []).headD []).length ≤ 60 := by
          cases h : cut v [] with
          | nil => simp
          | cons x r => exact hl x (by rw [h]; simp)
        simp only [List.length_append, List.length_cons, List.length_nil]
        omega
      · have := emit_len name hn (cut v []) 0 (by omega) hl
        omega
theorem parT_step (F : List Fd) (k : Nat) (h : k < F.length) : parT (F.drop k) = paramT F[k].1.data.toList F[k].2.data.toList ++ parT (F.drop (k + 1)) := by
  rw [List.drop_eq_getElem_cons h]
  rfl
theorem okC_sizes {T S : ByteArray} {F : List Fd} (h : okC T S F) : T.size ≤ 60 ∧ S.size ≤ 60 ∧ F.length ≤ 32 ∧ ∀ i (hi : i < F.length), F[i].1.size ≤ 60 ∧ F[i].2.size ≤ 1000 := by
  have wsz : ∀ s : ByteArray, word s = true → s.size ≤ 60 := by
    intro s hs
    unfold word at hs
    simp at hs
    exact hs.2.1
  obtain ⟨h1, h2, h3, h4⟩ := h
  refine ⟨wsz T h1, ?_, h3, fun i hi => ?_⟩
  · rcases h2 with h2 | h2
    · omega
    · exact wsz S h2
  · obtain ⟨a, b, -⟩ := h4 i hi hi
    refine ⟨wsz _ a, ?_⟩
    unfold pval at b
    simp at b
    exact b.1
end Pl
theorem implParam (B : Nat) (v : Value) (p : List UInt8) (name value : ByteArray) (w : World) (hB : B ≤ w.heap.size) (hown : OwM B v p w) (hp : p.length ≤ 50000000) (hn : name.size ≤ 1000) (hv : value.size ≤ 1000) :
    Calls Tryd.prog 21 #[v, .agg #[.string name, .string value]] w fun e w' => ∃ v', e = .returned v' ∧ OwM B v' (p ++ Pl.paramT name.data.toList value.data.toList) w' ∧ Below B w w' := by
  by_cases h : ¬ value.data.toList.all Pl.prn = true → Pl.bare value.data.toList = true
  · exact implParamA B v p name value w hB hown hp hn hv h
  · have h1 : ¬ value.data.toList.all Pl.prn = true := fun e => h (fun e' => absurd e e')
    exact implParamB B v p name value w hB hown hp hn hv (fun e => h (fun _ => e)) h1
theorem bytesM {P : Program} (src dst : TypeId) (hs : P.underlying src = some .string) (hd : P.underlying dst = some (.slice 5)) (he : P.underlying 5 = some (.int .u8)) (s : ByteArray) (w : World) (hm : s.size ≤ 1000) :
    ∃ v W, (convert src dst (.string s)).run P w = .ok v W ∧ OwM w.heap.size v s.data.toList W ∧ Below w.heap.size w W := by
  have hge := grownCap_ge w s.size 0 5
  have hle := grownCap_le_maxLen w s.size 0 5 (by unfold maxLen; omega)
  have hsz : (bytesRow s (grownCap w s.size 0 5)).size = grownCap w s.size 0 5 := by
    simp only [bytesRow, Array.size_append, Array.size_map, Array.size_replicate]
    have : s.data.size = s.size := rfl
    omega
  have hb : Below w.heap.size w (w.drew.alloc (.cells (bytesRow s (grownCap w s.size 0 5)) 5 ((bytesRow s (grownCap w s.size 0 5)).size, (bytesRow s (grownCap w s.size 0 5)).size + 1))) := (Below.refl _ _).drew.alloc (Nat.le_refl _) _
  refine ⟨_, _, run_bytes_of_string w src dst 5 s hs hd he, .inr ⟨w.heap.size, _, by rw [Pl.len_list], ⟨Nat.le_refl _, by rw [Pl.len_list]; exact hge, hle, ⟨_, _, heap_alloc_new w.drew _⟩, fun j hj => ?_, fun j hj => ?_, fun j hj => ?_⟩⟩, hb⟩
  · have e := World.cell?_alloc_mark w.drew (bytesRow s (grownCap w s.size 0 5)) 5 ((bytesRow s (grownCap w s.size 0 5)).size, (bytesRow s (grownCap w s.size 0 5)).size + 1) j
    rw [show (w.drew.alloc (.cells (bytesRow s (grownCap w s.size 0 5)) 5 ((bytesRow s (grownCap w s.size 0 5)).size, (bytesRow s (grownCap w s.size 0 5)).size + 1))).cell? ⟨w.heap.size, j, none⟩ = _ from e]
    rw [Array.getElem?_eq_getElem (by omega)]
    rfl
  · have e := World.frozen?_alloc_mark w.drew (bytesRow s (grownCap w s.size 0 5)) 5 (bytesRow s (grownCap w s.size 0 5)).size ((bytesRow s (grownCap w s.size 0 5)).size + 1) j
    refine e.trans ?_
    simp only [Bool.and_eq_false_imp, decide_eq_true_eq, decide_eq_false_iff_not]
    omega
  · have hj' : j < s.data.size := by simpa using hj
    have e := World.cell?_alloc_mark w.drew (bytesRow s (grownCap w s.size 0 5)) 5 ((bytesRow s (grownCap w s.size 0 5)).size, (bytesRow s (grownCap w s.size 0 5)).size + 1) j
    refine e.trans ?_
    rw [bytesRow_at s _ j hj']
    simp
/-- An append of one byte to a slice that may bear a mark. -/
theorem wp_app1M {P : Program} {W w : World} {ops : Array Oper} {rest : List Oper} {o : Oper} {a : Act} {Q : Exit → Act → World → Prop} (hgd : o.guard = none) (s x : Operand) (t : TypeId)
    (ho : o.op = .call { callee := .builtin .append, args := #[s, x], argTypes := #[t, t] })
    (i : TypeInfo) (ht : P.underlying t = some (.slice 5)) (hi : P.info? 5 = some i) (hz : i.zero = some (.int .u8 0)) (hsize : i.size = 1) (hby : i.bytes = 1)
    (B : Nat) (v : Value) (p : List UInt8) (hs : a.eval s = v) (hown : OwM B v p w)
    (hx : a.eval x = .slice (some ⟨w.heap.size, 0, none⟩) 1 1) (hlen : p.length ≤ 1000000) (hB : B ≤ W.heap.size) (hb : Below B W w)
    (h : ∀ v' w', OwM B v' (p ++ [47]) w' → Below B W w' → wpList P ops Q rest (a.put o.dst v') w') : wpList P ops Q (o :: rest) a (w.alloc (.cells #[.int .u8 47] 5)) := by
  have hsz := hb.size
  have hbw : Below w.heap.size w (w.alloc (.cells #[.int .u8 47] 5)) := (Below.refl _ _).alloc (Nat.le_refl _) _
  rcases hown with hown | ⟨g, cap, rfl, hk⟩
  · exact wp_app hgd s x t ho i ht hi hz hsize hby B v p hs hown #[.int .u8 47] [47] rfl 1 1 rfl hx (by simp; omega) hB hb (fun v' w' h1 h2 => h v' w' (.inl h1) h2)
  · have hk2 := hk.keep hbw
    have hcell : ∀ j u, (strCells ⟨#[47]⟩)[j]? = some u → (w.alloc (.cells #[.int .u8 47] 5)).cell? ((⟨w.heap.size, 0, none⟩ : Addr).add j) = some u := by
      intro j u hj
      match j, hj with
      | 0, hj =>
        rw [add_off]
        simp [strCells] at hj
        subst hj
        simp
      | j + 1, hj => simp [strCells] at hj
    refine wpList_plain hgd fun K hK => ?_
    by_cases hroom : p.length + 1 ≤ cap
    · have hf := run_firstCells_some (P := P) (w.alloc (.cells #[.int .u8 47] 5)) i.size 1 ⟨w.heap.size, 0, none⟩ 1 1 (strCells ⟨#[47]⟩) (by rw [hsize]; rfl) hcell
      have hst := run_storeCells_cells (P := P) g p.length (strCells ⟨#[47]⟩) 0 (w.alloc (.cells #[.int .u8 47] 5)) (fun j hj => hk2.there _ (by have : (strCells ⟨#[47]⟩).length = 1 := rfl; omega)) (fun j hj => hk2.free _ (by have : (strCells ⟨#[47]⟩).length = 1 := rfl; omega)) (strCells_oneCell _)
      simp only [Nat.add_zero] at hst
      have hr : (Builtin.append_ #[t, t] o.type #[.slice (some ⟨g, 0, none⟩) p.length cap, .slice (some ⟨w.heap.size, 0, none⟩) 1 1]).run P (w.alloc (.cells #[.int .u8 47] 5)) = .ok (.slice (some ⟨g, 0, none⟩) (p.length + 1) cap) ((w.alloc (.cells #[.int .u8 47] 5)).setCells g p.length (strCells ⟨#[47]⟩)) := by
        rw [hsize] at hf
        simp [Builtin.append_, run_underlying ht, sizeOf, typeInfo, hi, hsize, Builtin.lenOf, hroom, hf, Addr.add_lit, hst]
      unfold Oper.wp execOp
      simp only [ho, resolve, invoke, builtin, Sem.run_bind, Sem.run_pure, Result.andThen_ok, List.map_toArray, List.map_cons, List.map_nil, hs, hx, hr]
      have hm := hk2.more ⟨#[47]⟩ hroom
      exact hK _ _ (h _ _ (.inr ⟨g, cap, by simp, hm⟩) (below_setCells B W g hk.base _ _ _ (hb.trans (hbw.mono (Nat.le_trans hB hsz)))))
    · have holds : ∀ j x, (Lib.byteCells p)[j]? = some x → (w.alloc (.cells #[.int .u8 47] 5)).cell? ((⟨g, 0, none⟩ : Addr).add j) = some x := by
        intro j x hj
        rw [add_off]
        have hjl : j < p.length := by
          have := (List.getElem?_eq_some_iff.1 hj).1
          rwa [Lib.byteCells_length] at this
        rw [hk2.holds j hjl, ← hj]
        simp [Lib.byteCells, hjl]
      have hw1 : (w.alloc (.cells #[.int .u8 47] 5)).heap.size = w.heap.size + 1 := by simp
      have h63 : p.length + 1 ≤ maxLen := by unfold maxLen; omega
      have hr := run_append_grow (P := P) (w.alloc (.cells #[.int .u8 47] 5)) t o.type 5 i (.int .u8 0) ht hi hz ⟨g, 0, none⟩ p.length cap (Lib.byteCells p) (by rw [Lib.byteCells_length, hsize, Nat.mul_one]) holds ⟨w.heap.size, 0, none⟩ 1 1 (strCells ⟨#[47]⟩) (by rw [hsize]; rfl) hcell (by omega) (by omega) (growslice_fits (by omega) (by rw [hby]; omega))
      unfold Oper.wp execOp
      simp only [ho, resolve, invoke, builtin, Sem.run_bind, Sem.run_pure, Result.andThen_ok, List.map_toArray, List.map_cons, List.map_nil, hs, hx, hr]
      generalize hW1 : w.alloc (.cells #[.int .u8 47] 5) = w1 at *
      have hb2 : Below w1.heap.size w1 (w1.drew.alloc (.cells ((Lib.byteCells p).toArray ++ (strCells ⟨#[47]⟩).toArray ++ Builtin.zeroCells (Value.int .u8 0).cells (grownCap w1 (p.length + 1) cap 5 - (p.length + 1))) 5)) := (Below.refl _ _).drew.alloc (Nat.le_refl _) _
      have hBw1 : B ≤ w1.heap.size := by omega
      refine hK _ _ (h _ _ (.inl ?_) ((hb.trans (hbw.mono (Nat.le_trans hB hsz))).trans (hb2.mono hBw1)))
      have hnl : (p ++ [47]).length = p.length + 1 := by simp
      unfold Own
      rw [hnl]
      have hge := grownCap_ge w1 (p.length + 1) cap 5
      refine ⟨by rw [Lib.byteCells_length, hnl, Nat.mul_one], .inr ⟨w1.heap.size, _, _, rfl, hBw1, heap_alloc_new w1.drew _, hge, grownCap_le_maxLen w1 (p.length + 1) cap 5 h63, ?_, ?_⟩⟩
      · simp only [Array.size_append, List.size_toArray, size_zeroCells, Lib.byteCells_length, strCells_length]
        show p.length + 1 + (grownCap w1 (p.length + 1) cap 5 - (p.length + 1)) * 1 = _
        omega
      · rw [Lib.byteCells_append]
        simp only [Array.toList_append, List.append_assoc]
        rw [← List.append_assoc, Nat.mul_one]
        have e : p.length + 1 = (Lib.byteCells p ++ strCells ⟨#[47]⟩).length := by rw [List.length_append, Lib.byteCells_length, strCells_length]; rfl
        rw [e]
        exact List.take_left
set_option maxHeartbeats 2000000 in
theorem specWrite (T S : ByteArray) (o : Option Addr) (F : List Fd) (cap : Nat) (w : World) (hT : T.size ≤ 1048576) (hS : S.size ≤ 1048576) (hF : Fld w.heap.size w o F) (hlen : F.length ≤ 1048576) (hsz : ∀ f ∈ F, f.1.size ≤ 1048576 ∧ f.2.size ≤ 1048576) :
    Calls Tryd.prog 10 #[ct T S o F.length cap] w fun e w' => e = .returned (.string (Pl.writeT T S F)) ∧ Below w.heap.size w w' := by
  have hbA : ∀ b, Below w.heap.size w (w.alloc b) := fun b => (Below.refl _ _).alloc (Nat.le_refl _) _
  have cF := mkHid fun w hF => specFault T S o F cap w hT hS hF hlen hsz
  have HF := mkHid hF
  by_cases hok : Pl.okC T S F
  · have hcode := Pl.code_yes hok
    rw [hcode] at cF
    obtain ⟨hT60, hS60, hF32, hsz2⟩ := Pl.okC_sizes hok
    have Hsz := mkHid hsz2
    obtain ⟨X, HX⟩ : ∃ X, Hid (Pl.contT T S F = X) := ⟨_, mkHid rfl⟩
    have hW : Hid (Pl.writeT T S F = if X.length ≤ 100000 then mkB X else ⟨#[]⟩) := show _ = _ from by
      unfold Pl.writeT
      rw [HX.out]
      by_cases hl : X.length ≤ 100000
      · rw [if_pos ⟨hok, hl⟩, if_pos hl]
      · rw [if_neg (fun h => hl h.2), if_neg hl]
    obtain ⟨Y, HY⟩ : ∃ Y, Hid ((if X.length ≤ 100000 then mkB X else ⟨#[]⟩) = Y) := ⟨_, mkHid rfl⟩
    rw [hW.out, HY.out]
    clear hF hsz hsz2 hok hcode hT hS hlen
    have hcase : (S.toList.isEmpty = true ∧ Hid (T.data.toList ++ Pl.parT F = X)) ∨ (S.toList.isEmpty = false ∧ Hid (T.data.toList ++ 47 :: S.data.toList ++ Pl.parT F = X)) := by
      by_cases h1 : S.size = 0
      · refine .inl ⟨isEmpty_of S h1, ?_⟩
        have := HX.out
        unfold Pl.contT at this
        rw [if_pos h1, List.append_nil] at this
        exact this
      · refine .inr ⟨isEmpty_ne S h1, ?_⟩
        have := HX.out
        unfold Pl.contT at this
        rw [if_neg h1] at this
        exact this
    clear HX hW
    rcases hcase with ⟨hE, hX⟩ | ⟨hE, hX⟩
    all_goals
      go_enter Tryd.func10, Tryd.ntmps10
      go_wp2_with fail
      refine (cF.out _ ((HF.out.below (hbA _)).mono (hbA _).size)).mono ?_
      rintro e w1 ⟨rfl, hb1⟩
      have Hb1 := mkHid hb1
      obtain ⟨q0, q1, q2⟩ := boxed _ _ _ hb1
      clear hb1 cF
      go_wp2
      go_loopw [3, 4] (fun out i wr => ∃ (k : Nat) (q : List UInt8), k ≤ F.length ∧ i = .int .i64 k ∧ out = .string (mkB q) ∧ q.length ≤ 1000 + 120000 * k ∧ Hid (q ++ Pl.parT (F.drop k) = X) ∧ Hid (Below (w.alloc (.cells #[.string T, .string S, .slice o F.length cap] 29)).heap.size (w.alloc (.cells #[.string T, .string S, .slice o F.length cap] 29)) wr)) (fun _ i _ => F.length - (Lib.intOf i).toNat)
      case atStart =>
        first
          | exact ⟨0, T.data.toList, Nat.zero_le _, rfl, congrArg Value.string (bytes_eq _ _ rfl), by rw [Pl.len_list]; omega, hX, Hb1⟩
          | exact ⟨0, T.data.toList ++ 47 :: S.data.toList, Nat.zero_le _, rfl, congrArg Value.string (bytes_eq _ _ (by simp)), by have := Pl.len_list T; have := Pl.len_list S; simp only [List.length_append, List.length_cons]; omega, hX, Hb1⟩
      case round =>
        clear q0 q1 q2 Hb1 hX
        obtain ⟨k, q, hk, rfl, rfl, hql, hq, HB⟩ := hrel
        obtain ⟨q0, q1, q2⟩ := boxed _ _ _ HB.out
        have hbw := mkHid ((hbA _).trans (HB.out.mono (hbA _).size))
        have hqs := mkB_size q
        by_cases hlt : k < F.length
        · obtain ⟨a, rfl, ha, hc0, hc1⟩ := (HF.out.below hbw.out) k hlt
          obtain ⟨hs0, hs1⟩ := Hsz.out k hlt
          have hst := mkHid (Pl.parT_step F k hlt)
          have hpl := Pl.paramT_len F[k].1.data.toList F[k].2.data.toList (by rw [Pl.len_list]; omega) (by rw [Pl.len_list]; omega)
          have cP := fun w => specParam F[k].1 F[k].2 w (by omega) (by omega)
          have hps := mkB_size (Pl.paramT F[k].1.data.toList F[k].2.data.toList)
          generalize F[k] = f at *
          have hjn : Hid (mkB q ++ mkB (Pl.paramT f.1.data.toList f.2.data.toList) = mkB (q ++ Pl.paramT f.1.data.toList f.2.data.toList)) := show _ = _ from ba_join _ _
          have hnx : Hid ((q ++ Pl.paramT f.1.data.toList f.2.data.toList) ++ Pl.parT (F.drop (k + 1)) = X) := show _ = _ from by rw [← hq.out, hst.out, List.append_assoc]
          have hl2 : Hid ((q ++ Pl.paramT f.1.data.toList f.2.data.toList).length ≤ 1000 + 120000 * (k + 1)) := by rw [Hid, List.length_append]; omega
          have z1 : (mkB q).size ≤ 100000000 := by omega
          have z2 : (mkB (Pl.paramT f.1.data.toList f.2.data.toList)).size ≤ 1000000 := by omega
          clear hqs hps hpl hql hq hst
          generalize mkB q = qb at *
          generalize mkB (Pl.paramT f.1.data.toList f.2.data.toList) = pb at *
          go_wp2_with fail
          refine (cP _).mono ?_
          rintro e w3 ⟨rfl, hb3⟩
          have HB3 := mkHid (HB.out.trans (hb3.mono HB.out.size))
          clear hb3 cP
          go_wp2
          go_roundw
          case rel => exact ⟨k + 1, q ++ Pl.paramT f.1.data.toList f.2.data.toList, by omega, by go_num, by rw [hjn.out], hl2.out, hnx, HB3⟩
          case measure => simp [Lib.intOf]; omega
        · have hfin : X = q := by
            rw [← hq.out, List.drop_eq_nil_of_le (by omega)]
            simp [Pl.parT]
          subst hfin
          clear hq
          by_cases hl : X.length ≤ 100000
          · have hYc : Hid (Y = mkB X) := show _ = _ from by rw [← HY.out, if_pos hl]
            have hl2 : ((mkB X).size : Int) ≤ 100000 := by omega
            clear HY hqs hql hl
            generalize mkB X = xb at *
            go_wp2
            go_ret
            exact ⟨by rw [hYc.out]; rfl, hbw.out⟩
          · have hYc : Hid (Y = ⟨#[]⟩) := show _ = _ from by rw [← HY.out, if_neg hl]
            have hl2 : (100000 : Int) < ((mkB X).size : Int) := by omega
            clear HY hqs hql hl
            generalize mkB X = xb at *
            go_wp2
            go_ret
            exact ⟨by rw [hYc.out]; rfl, hbw.out⟩
  · have hW : Pl.writeT T S F = ⟨#[]⟩ := by unfold Pl.writeT; rw [if_neg (fun h => hok h.1)]
    have hcode := Pl.code_no hok
    rw [hcode] at cF
    rw [hW]
    clear hW hcode hok hF hsz
    go_enter Tryd.func10, Tryd.ntmps10
    go_wp2_with fail
    refine (cF.out _ ((HF.out.below (hbA _)).mono (hbA _).size)).mono ?_
    rintro e w1 ⟨rfl, hb1⟩
    go_wp2
    go_ret
    exact ⟨rfl, (hbA _).trans (hb1.mono (hbA _).size)⟩
set_option maxHeartbeats 4000000 in
theorem implWrite (T S : ByteArray) (o : Option Addr) (F : List Fd) (cap : Nat) (w : World) (hT : T.size ≤ 1048576) (hS : S.size ≤ 1048576) (hF : Fld w.heap.size w o F) (hlen : F.length ≤ 1048576) (hsz : ∀ f ∈ F, f.1.size ≤ 1048576 ∧ f.2.size ≤ 1048576)
    (hU : Lib.Utf8Tabs 0 1 w) :
    Calls Tryd.prog 11 #[ct T S o F.length cap] w fun e w' => e = .returned (.string (Pl.writeT T S F)) ∧ Below w.heap.size w w' := by
  have hbA : ∀ b, Below w.heap.size w (w.alloc b) := fun b => (Below.refl _ _).alloc (Nat.le_refl _) _
  have cF := mkHid fun w hF hU => implFault T S o F cap w hT hS hF hlen hsz hU
  have HF := mkHid hF
  have HU := mkHid hU
  by_cases hok : Pl.okC T S F
  · have hcode := Pl.code_yes hok
    rw [hcode] at cF
    obtain ⟨hT60, hS60, hF32, hsz2⟩ := Pl.okC_sizes hok
    have Hsz := mkHid hsz2
    obtain ⟨X, HX⟩ : ∃ X, Hid (Pl.contT T S F = X) := ⟨_, mkHid rfl⟩
    have hW : Hid (Pl.writeT T S F = if X.length ≤ 100000 then mkB X else ⟨#[]⟩) := show _ = _ from by
      unfold Pl.writeT
      rw [HX.out]
      by_cases hl : X.length ≤ 100000
      · rw [if_pos ⟨hok, hl⟩, if_pos hl]
      · rw [if_neg (fun h => hl h.2), if_neg hl]
    obtain ⟨Y, HY⟩ : ∃ Y, Hid ((if X.length ≤ 100000 then mkB X else ⟨#[]⟩) = Y) := ⟨_, mkHid rfl⟩
    rw [hW.out, HY.out]
    clear hF hsz hsz2 hok hcode hT hS hlen hU
    have hcase : (S.toList.isEmpty = true ∧ Hid (T.data.toList ++ Pl.parT F = X)) ∨ (S.toList.isEmpty = false ∧ Hid (T.data.toList ++ [47] ++ S.data.toList ++ Pl.parT F = X)) := by
      by_cases h1 : S.size = 0
      · refine .inl ⟨isEmpty_of S h1, ?_⟩
        have := HX.out
        unfold Pl.contT at this
        rw [if_pos h1, List.append_nil] at this
        exact this
      · refine .inr ⟨isEmpty_ne S h1, ?_⟩
        have := HX.out
        unfold Pl.contT at this
        rw [if_neg h1] at this
        rw [← this]
        simp [Hid]
    clear HX hW
    obtain ⟨i0, hi, hz0, hz1, hz2⟩ := info_parts Tryd.info5
    rcases hcase with ⟨hE, hX⟩ | ⟨hE, hX⟩
    · go_enter Tryd.func11, Tryd.ntmps11
      go_wp2_with fail
      refine (cF.out _ ((HF.out.below (hbA _)).mono (hbA _).size) (tabs_below HU.out (hbA _))).mono ?_
      rintro e w1 ⟨rfl, hb1⟩
      obtain ⟨q0, q1, q2⟩ := boxed _ _ _ hb1
      obtain ⟨v0, w2, hcv, how2, hb2⟩ := bytesM (P := Tryd.prog) 9 43 Tryd.underlying9 Tryd.underlying43 Tryd.underlying5 T w1 (by omega)
      have Hb2 := mkHid (hb1.trans (hb2.mono hb1.size))
      obtain ⟨p0, p1, p2⟩ := boxed _ _ _ Hb2.out
      have how3 : OwM (w.alloc (.cells #[.string T, .string S, .slice o F.length cap] 29)).heap.size v0 T.data.toList w2 := by
        rcases how2 with h | ⟨g, c, rfl, h⟩
        · refine .inl ⟨h.1, ?_⟩
          rcases h.2 with h | ⟨g, c, cur, h1, h2, h3⟩
          · exact .inl h
          · exact .inr ⟨g, c, cur, h1, Nat.le_trans hb1.size h2, h3⟩
        · exact .inr ⟨g, c, rfl, ⟨Nat.le_trans hb1.size h.base, h.room, h.most, h.kind, h.there, h.free, h.holds⟩⟩
      have hTl := Pl.len_list T
      clear hb1 cF hb2 how2
      go_wp2
      go_loopw [3, 25] (fun out i wr => ∃ (k : Nat) (q : List UInt8), k ≤ F.length ∧ i = .int .i64 k ∧ q.length ≤ 1000 + 120000 * k ∧ Hid (q ++ Pl.parT (F.drop k) = X) ∧ Hid (OwM (w.alloc (.cells #[.string T, .string S, .slice o F.length cap] 29)).heap.size out q wr) ∧ Hid (Below (w.alloc (.cells #[.string T, .string S, .slice o F.length cap] 29)).heap.size (w.alloc (.cells #[.string T, .string S, .slice o F.length cap] 29)) wr)) (fun _ i _ => F.length - (Lib.intOf i).toNat)
      case atStart => exact ⟨0, T.data.toList, Nat.zero_le _, rfl, by omega, hX, how3, Hb2⟩
      case round =>
        clear q0 q1 q2 p0 p1 p2 hX how3 Hb2 hcv
        obtain ⟨k, q, hk, rfl, hql, hq, how, HB⟩ := hrel
        have hbw := mkHid ((hbA _).trans (HB.out.mono (hbA _).size))
        by_cases hlt : k < F.length
        · obtain ⟨a, rfl, ha, hc0, hc1⟩ := (HF.out.below hbw.out) k hlt
          obtain ⟨hs0, hs1⟩ := Hsz.out k hlt
          have hst := mkHid (Pl.parT_step F k hlt)
          have hpl := Pl.paramT_len F[k].1.data.toList F[k].2.data.toList (by rw [Pl.len_list]; omega) (by rw [Pl.len_list]; omega)
          generalize F[k] = f at *
          have cP := mkHid fun b => implParam _ u3 q f.1 f.2 (wr.alloc b) (Nat.le_trans HB.out.size ((Below.refl wr.heap.size wr).alloc (Nat.le_refl _) b).size) (how.out.alloc b) (by omega) (by omega) (by omega)
          have hnx : Hid ((q ++ Pl.paramT f.1.data.toList f.2.data.toList) ++ Pl.parT (F.drop (k + 1)) = X) := show _ = _ from by rw [← hq.out, hst.out, List.append_assoc]
          have hl2 : Hid ((q ++ Pl.paramT f.1.data.toList f.2.data.toList).length ≤ 1000 + 120000 * (k + 1)) := by rw [Hid, List.length_append]; omega
          have hBa := mkHid fun b => HB.out.alloc HB.out.size b
          clear hpl hql hq hst
          go_wp2_with fail
          refine (cP.out _).mono ?_
          rintro e w3 ⟨v3, rfl, how3, hb3⟩
          have HB3 := mkHid ((hBa.out _).trans hb3)
          clear hb3 cP
          go_wp2
          go_roundw
          case rel => exact ⟨k + 1, q ++ Pl.paramT f.1.data.toList f.2.data.toList, by omega, by go_num, hl2.out, hnx, how3, HB3⟩
          case measure => simp [Lib.intOf]; omega
        · have hfin : X = q := by
            rw [← hq.out, List.drop_eq_nil_of_le (by omega)]
            simp [Pl.parT]
          subst hfin
          clear hq
          have hback := how.out.back (P := Tryd.prog) 43 9 Tryd.underlying43 Tryd.underlying5 Tryd.underlying9
          rcases how.out.form with ⟨rfl, hX0⟩ | ⟨g, cp, rfl⟩
          · have hYc : Hid (Y = mkB X) := show _ = _ from by rw [← HY.out, if_pos (by rw [hX0]; simp)]
            clear HY hql
            go_wp2
            go_ret
            exact ⟨by rw [hYc.out, hX0]; rfl, hbw.out⟩
          · by_cases hl : X.length ≤ 100000
            · have hYc : Hid (Y = mkB X) := show _ = _ from by rw [← HY.out, if_pos hl]
              clear HY hql
              go_wp2
              go_ret
              exact ⟨by rw [hYc.out]; rfl, hbw.out⟩
            · have hYc : Hid (Y = ⟨#[]⟩) := show _ = _ from by rw [← HY.out, if_neg hl]
              clear HY hql hback
              go_wp2
              go_ret
              exact ⟨by rw [hYc.out]; rfl, hbw.out⟩
    · go_enter Tryd.func11, Tryd.ntmps11
      go_wp2_with fail
      refine (cF.out _ ((HF.out.below (hbA _)).mono (hbA _).size) (tabs_below HU.out (hbA _))).mono ?_
      rintro e w1 ⟨rfl, hb1⟩
      obtain ⟨q0, q1, q2⟩ := boxed _ _ _ hb1
      obtain ⟨v0, w2, hcv, how2, hb2⟩ := bytesM (P := Tryd.prog) 9 43 Tryd.underlying9 Tryd.underlying43 Tryd.underlying5 T w1 (by omega)
      have Hb2 := mkHid (hb1.trans (hb2.mono hb1.size))
      obtain ⟨p0, p1, p2⟩ := boxed _ _ _ Hb2.out
      have how3 : OwM (w.alloc (.cells #[.string T, .string S, .slice o F.length cap] 29)).heap.size v0 T.data.toList w2 := by
        rcases how2 with h | ⟨g, c, rfl, h⟩
        · refine .inl ⟨h.1, ?_⟩
          rcases h.2 with h | ⟨g, c, cur, h1, h2, h3⟩
          · exact .inl h
          · exact .inr ⟨g, c, cur, h1, Nat.le_trans hb1.size h2, h3⟩
        · exact .inr ⟨g, c, rfl, ⟨Nat.le_trans hb1.size h.base, h.room, h.most, h.kind, h.there, h.free, h.holds⟩⟩
      have hTl := Pl.len_list T
      have hSl := Pl.len_list S
      clear hb1 cF hb2 how2
      go_wp2_with (first
        | (at_builtin; refine wp_appsM (W := w4) rfl _ _ 43 9 rfl i0 Tryd.underlying43 Tryd.underlying9 hi hz0 hz1 hz2 _ v4 _ rfl how4 S rfl (by simp; omega) (Nat.le_trans Hb2.out.size hb4.size) (Below.refl _ _) (FrT.refl _ _) ?_; intro v5 w5 how5 hb5 hf5; obtain ⟨r0, r1, r2⟩ := boxed _ _ _ ((Hb2.out.trans hb4).trans hb5))
        | (at_builtin; refine wp_app1M (W := w2) rfl _ _ 43 rfl i0 Tryd.underlying43 hi hz0 hz1 hz2 _ v0 _ rfl how3 rfl (by omega) Hb2.out.size (Below.refl _ _) ?_; intro v4 w4 how4 hb4; obtain ⟨s0, s1, s2⟩ := boxed _ _ _ (Hb2.out.trans hb4)))
      go_loopw [3, 25] (fun out i wr => ∃ (k : Nat) (q : List UInt8), k ≤ F.length ∧ i = .int .i64 k ∧ q.length ≤ 1000 + 120000 * k ∧ Hid (q ++ Pl.parT (F.drop k) = X) ∧ Hid (OwM (w.alloc (.cells #[.string T, .string S, .slice o F.length cap] 29)).heap.size out q wr) ∧ Hid (Below (w.alloc (.cells #[.string T, .string S, .slice o F.length cap] 29)).heap.size (w.alloc (.cells #[.string T, .string S, .slice o F.length cap] 29)) wr)) (fun _ i _ => F.length - (Lib.intOf i).toNat)
      case atStart => exact ⟨0, T.data.toList ++ [47] ++ S.data.toList, Nat.zero_le _, rfl, by simp only [List.length_append, List.length_singleton]; omega, hX, how5, (Hb2.out.trans hb4).trans hb5⟩
      case round =>
        clear q0 q1 q2 p0 p1 p2 hX how3 Hb2 hcv s0 s1 s2 r0 r1 r2 how4 how5 hb4 hb5 hf5
        obtain ⟨k, q, hk, rfl, hql, hq, how, HB⟩ := hrel
        have hbw := mkHid ((hbA _).trans (HB.out.mono (hbA _).size))
        by_cases hlt : k < F.length
        · obtain ⟨a, rfl, ha, hc0, hc1⟩ := (HF.out.below hbw.out) k hlt
          obtain ⟨hs0, hs1⟩ := Hsz.out k hlt
          have hst := mkHid (Pl.parT_step F k hlt)
          have hpl := Pl.paramT_len F[k].1.data.toList F[k].2.data.toList (by rw [Pl.len_list]; omega) (by rw [Pl.len_list]; omega)
          generalize F[k] = f at *
          have cP := mkHid fun b => implParam _ u3 q f.1 f.2 (wr.alloc b) (Nat.le_trans HB.out.size ((Below.refl wr.heap.size wr).alloc (Nat.le_refl _) b).size) (how.out.alloc b) (by omega) (by omega) (by omega)
          have hnx : Hid ((q ++ Pl.paramT f.1.data.toList f.2.data.toList) ++ Pl.parT (F.drop (k + 1)) = X) := show _ = _ from by rw [← hq.out, hst.out, List.append_assoc]
          have hl2 : Hid ((q ++ Pl.paramT f.1.data.toList f.2.data.toList).length ≤ 1000 + 120000 * (k + 1)) := by rw [Hid, List.length_append]; omega
          have hBa := mkHid fun b => HB.out.alloc HB.out.size b
          clear hpl hql hq hst
          go_wp2_with fail
          refine (cP.out _).mono ?_
          rintro e w3 ⟨v3, rfl, how3, hb3⟩
          have HB3 := mkHid ((hBa.out _).trans hb3)
          clear hb3 cP
          go_wp2
          go_roundw
          case rel => exact ⟨k + 1, q ++ Pl.paramT f.1.data.toList f.2.data.toList, by omega, by go_num, hl2.out, hnx, how3, HB3⟩
          case measure => simp [Lib.intOf]; omega
        · have hfin : X = q := by
            rw [← hq.out, List.drop_eq_nil_of_le (by omega)]
            simp [Pl.parT]
          subst hfin
          clear hq
          have hback := how.out.back (P := Tryd.prog) 43 9 Tryd.underlying43 Tryd.underlying5 Tryd.underlying9
          rcases how.out.form with ⟨rfl, hX0⟩ | ⟨g, cp, rfl⟩
          · have hYc : Hid (Y = mkB X) := show _ = _ from by rw [← HY.out, if_pos (by rw [hX0]; simp)]
            clear HY hql
            go_wp2
            go_ret
            exact ⟨by rw [hYc.out, hX0]; rfl, hbw.out⟩
          · by_cases hl : X.length ≤ 100000
            · have hYc : Hid (Y = mkB X) := show _ = _ from by rw [← HY.out, if_pos hl]
              clear HY hql
              go_wp2
              go_ret
              exact ⟨by rw [hYc.out]; rfl, hbw.out⟩
            · have hYc : Hid (Y = ⟨#[]⟩) := show _ = _ from by rw [← HY.out, if_neg hl]
              clear HY hql hback
              go_wp2
              go_ret
              exact ⟨by rw [hYc.out]; rfl, hbw.out⟩
  · have hW : Pl.writeT T S F = ⟨#[]⟩ := by unfold Pl.writeT; rw [if_neg (fun h => hok h.1)]
    have hcode := Pl.code_no hok
    rw [hcode] at cF
    rw [hW]
    clear hW hcode hok hF hsz hU
    go_enter Tryd.func11, Tryd.ntmps11
    go_wp2_with fail
    refine (cF.out _ ((HF.out.below (hbA _)).mono (hbA _).size) (tabs_below HU.out (hbA _))).mono ?_
    rintro e w1 ⟨rfl, hb1⟩
    go_wp2
    go_ret
    exact ⟨rfl, (hbA _).trans (hb1.mono (hbA _).size)⟩
end Go.Proofs.YtpjpnjbegjiegaaDoor
