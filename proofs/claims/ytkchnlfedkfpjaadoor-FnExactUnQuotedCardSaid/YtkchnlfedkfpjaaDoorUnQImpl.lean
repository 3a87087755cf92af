/- UnQuoted, the program's side. -/
import Derived.Test.YtkchnlfedkfpjaaDoorUnQPlain
import Derived.Laws.AppendOwnNone
namespace Go.Proofs.YtkchnlfedkfpjaaDoor
open Go.RowKit Go.Lib
/-- The library's variable MaxLen holds a number. -/
def MaxCell (m : Int) (w : World) : Prop := 0 < w.heap.size ∧ w.cell? ⟨0, 0, none⟩ = some (.int .i64 m)
theorem MaxCell.below {m : Int} {w w' : World} (h : MaxCell m w) (hb : Below w.heap.size w w') : MaxCell m w' := by
  refine ⟨Nat.lt_of_lt_of_le h.1 hb.size, ?_⟩
  rw [← h.2]
  exact hb.cell h.1
theorem libCut (r x y : List UInt8) (c : Bool) (hcut : cut r Pl.crs = (x, y, c)) (m : Int) (w : World) (hr : r.length ≤ 1100000) (hm : MaxCell m w) :
    Calls Tryd.prog 11 #[.string ⟨r.toArray⟩, .string ⟨#[13, 10]⟩] w fun e w' => e = .returned (.tuple #[.string ⟨x.toArray⟩, .string ⟨y.toArray⟩, .bool c]) ∧ Below w.heap.size w w' := by
  refine (Tryd.strings_Cut ⟨r.toArray⟩ ⟨#[13, 10]⟩ m w (by simp [ByteArray.size]; omega) hm.2).mono ?_
  rintro e w' ⟨rfl, n, rfl⟩
  have e1 : cut (⟨r.toArray⟩ : ByteArray).data.toList (⟨#[13, 10]⟩ : ByteArray).data.toList = (x, y, c) := hcut
  rw [e1]
  exact ⟨rfl, below_drewN (Below.refl _ _) n⟩
theorem libTrim (x : List UInt8) (w : World) (hx : x.length ≤ 1100000) :
    Calls Tryd.prog 13 #[.string ⟨x.toArray⟩, .string ⟨#[32, 9]⟩] w fun e w' => e = .returned (.string ⟨(Pl.trimR x).toArray⟩) ∧ Below w.heap.size w w' := by
  refine (libTrimRight ⟨x.toArray⟩ w (by simpa [ByteArray.size] using hx)).mono ?_
  rintro e w' ⟨rfl, hb⟩
  refine ⟨?_, hb⟩
  congr 2
  apply ByteArray.ext
  apply Array.toList_inj.1
  rw [ext_list]
  rfl
theorem libSuf (t : List UInt8) (w : World) (ht : t.length ≤ 1100000) :
    Calls Tryd.prog 12 #[.string ⟨t.toArray⟩, .string ⟨#[61]⟩] w fun e w' => e = .returned (.tuple #[.string ⟨(Pl.body t).toArray⟩, .bool (Pl.soft t)]) ∧ w' = w := by
  refine (Tryd.strings_CutSuffix ⟨t.toArray⟩ ⟨#[61]⟩ w (by simp [ByteArray.size]; omega)).mono ?_
  rintro e w' ⟨rfl, rfl⟩
  refine ⟨?_, rfl⟩
  have e1 : trimSuffix (⟨t.toArray⟩ : ByteArray).data.toList (⟨#[61]⟩ : ByteArray).data.toList = Pl.body t := Pl.body_lib t
  have e2 : hasSuffix (⟨t.toArray⟩ : ByteArray).data.toList (⟨#[61]⟩ : ByteArray).data.toList = Pl.soft t := Pl.soft_lib t
  rw [e1, e2]
/-- An append of bytes that lie in a slice of their own, which may be none. -/
theorem wp_appo {P : Program} {W w : World} {ops : Array Oper} {rest : List Oper} {o : Oper} {a : Act} {Q : Exit → Act → World → Prop} (hgd : o.guard = none) (s x : Operand) (t : TypeId)
    (ho : o.op = .call { callee := .builtin .append, args := #[s, x], argTypes := #[t, t] })
    (i : TypeInfo) (ht : P.underlying t = some (.slice 5)) (hi : P.info? 5 = some i) (hz : i.zero = some (.int .u8 0)) (hsize : i.size = 1) (hby : i.bytes = 1)
    (B : Nat) (v : Value) (p : List UInt8) (hs : a.eval s = v) (hown : Own B v p w) (B2 : Nat) (v2 : Value) (news : List UInt8) (hx : a.eval x = v2) (hown2 : Own B2 v2 news w)
    (hlen : p.length + news.length ≤ 140737488355328) (hB : B ≤ W.heap.size) (hb : Below B W w)
    (h : ∀ v' w', Own B v' (p ++ news) w' → Below B W w' → wpList P ops Q rest (a.put o.dst v') w') : wpList P ops Q (o :: rest) a w := by
  have hsz := hb.size
  rcases hown2.form with ⟨rfl, rfl⟩ | ⟨g, cap, rfl⟩
  · refine wpList_append_own_none hgd s x t ho B 5 i 1 ht hi v p.length (byteCells p) hs hown hx ?_
    exact h v w (by rw [List.append_nil]; exact hown) hb
  refine wpList_append_own _ hgd s x t ho B 5 i (.int .u8 0) 1 1 ht hi hz hsize hby rfl (by decide) v p.length (byteCells p) hs hown ⟨g, 0, none⟩ news.length cap (byteCells news) hx
    (by rw [byteCells_length, Nat.mul_one]) ?_ ?_ (by unfold maxLen; omega) (by omega) (by omega) ?_
  · intro j u hj
    have hj2 : j < news.length := by
      have := (List.getElem?_eq_some_iff.1 hj).1
      simpa [byteCells_length] using this
    rw [add_off, hown2.cell j hj2]
    simpa [byteCells, hj2] using hj
  · intro u hu
    simp only [byteCells, List.mem_map] at hu
    obtain ⟨b, -, rfl⟩ := hu
    rfl
  · intro v' w' h1 h2 _
    refine h v' w' ?_ ?_
    · unfold Own
      rw [byteCells_append, List.length_append]
      exact h1
    · exact hb.grown h2 (by omega) (fun k hk => (World.ownsRow.lt hown k hk).1)
theorem qb_len : ∀ (n : Nat) (out l o : List UInt8), l.length ≤ n → Pl.qb out l = some o → o.length ≤ out.length + l.length := by
  intro n
  induction n with
  | zero => intro out l o h hq; obtain rfl := List.length_eq_zero_iff.1 (by omega : l.length = 0); rw [Pl.qb] at hq; cases hq; simp
  | succ n ih =>
    intro out l o h hq
    match l with
    | [] => rw [Pl.qb] at hq; cases hq; simp
    | c :: r =>
      rw [Pl.qb] at hq
      simp at h
      split at hq
      · cases hh : Pl.hex2 r with
        | none => rw [hh] at hq; cases hq
        | some m =>
          rw [hh] at hq
          have := ih _ _ _ (by simp; omega) hq
          simp at this ⊢
          omega
      · have := ih _ _ _ (by omega) hq
        simp at this ⊢
        omega
theorem body_len (t : List UInt8) : (Pl.body t).length ≤ t.length := by
  unfold Pl.body
  split
  · simp
  · exact Nat.le_refl _
theorem trim_len (t : List UInt8) : (Pl.trimR t).length ≤ t.length := by
  unfold Pl.trimR
  rw [List.length_take]
  omega
/-- What both sides answer. -/
def unV (x : Option (List UInt8)) : Value := match x with | some l => .agg #[.bool true, .string ⟨l.toArray⟩] | none => .agg #[.bool false, .string ⟨#[]⟩]
/-- The program's way out. -/
theorem retU (w wr : World) (tmps : Array Value) (cs : Array Value) (hp : tmps.getD 2 undef = .pointer (some ⟨w.heap.size, 0, none⟩)) {old : Array Value} (hres : wr.heap[w.heap.size]? = some (.cells old 23 (0, 0))) (hb : Below w.heap.size w wr) (h2 : cs.size = 2 := by rfl) :
    bodyPost Tryd.prog Tryd.f5 (fun e w' => e = .returned (.agg cs) ∧ Below w.heap.size w w') Exit.ret { tmps := tmps, defers := [] } (wr.setRow w.heap.size cs) := by
  refine bodyPost_ret (v := .agg cs) (results_cell_row Tryd.results5 _ _ w.heap.size 23 _ (0, 0) _ hp (setRow_heap _ _ _ _ _ _ hres) Tryd.underlying23 rfl ?_) rfl ⟨rfl, hb.grown (grown_setRow _ _ _) hb.size (fun j hj => by cases hj; exact Nat.le_refl _)⟩
  rw [h2]
  kernel_rfl
set_option maxRecDepth 40000 in
set_option maxHeartbeats 2000000 in
theorem implUn (s : ByteArray) (m : Int) (w : World) (hs : s.size ≤ 100000) (hm : MaxCell m w) (hE : ErrCell w) :
    Calls Tryd.prog 5 #[.string s] w fun e w' => e = .returned (unV (Pl.unq [] s.data.toList)) ∧ Below w.heap.size w w' := by
  obtain ⟨i0, hi, hy0, hy1, hy2⟩ := info_parts Tryd.info5
  obtain ⟨x, hx⟩ : ∃ x, Pl.unq [] s.data.toList = x := ⟨_, rfl⟩
  rw [hx]
  have Hx : Hid (Pl.unq [] s.data.toList = x) := hx
  clear hx
  have hT := implTooLong s (w.alloc (.cells #[.bool false, .string ⟨#[]⟩] 23)) (by omega)
  rw [decide_eq_false (show ¬ (100000 : Int) < s.size by omega)] at hT
  go_enter Tryd.func5, Tryd.ntmps5
  go_wp2_with fail
  refine hT.mono ?_
  rintro e w1 ⟨rfl, rfl⟩
  go_wp2
  have hres0 : (w.alloc (.cells #[.bool false, .string ⟨#[]⟩] 23)).heap[w.heap.size]? = some (.cells #[.bool false, .string ⟨#[]⟩] 23 (0, 0)) := heap_alloc_at _ _
  have hbel0 : Below w.heap.size w (w.alloc (.cells #[.bool false, .string ⟨#[]⟩] 23)) := (Below.refl _ _).alloc (Nat.le_refl _) _
  have hsz0 : (w.alloc (.cells #[.bool false, .string ⟨#[]⟩] 23)).heap.size = w.heap.size + 1 := by simp
  have Hm := mkH (hm.below hbel0)
  have HE := mkH (hE.below hbel0)
  clear hm hE hT
  obtain ⟨W, hW⟩ : ∃ W, W = w.alloc (.cells #[.bool false, .string ⟨#[]⟩] 23) := ⟨_, rfl⟩
  rw [← hW] at hres0 hbel0 hsz0 Hm HE ⊢
  have hWs : w.heap.size < W.heap.size := by omega
  clear hsz0 hW
  go_loopw [0, 3, 4] (fun t v e wr => ∃ (r p : List UInt8) (en : Bool), t = .string ⟨r.toArray⟩ ∧ e = .bool en ∧ p.length + r.length ≤ s.size ∧ Hid ((if en then Pl.unq p r else some p) = x) ∧ Own W.heap.size v p wr ∧ Below W.heap.size W wr) (fun t _ e _ => match e, t with | .bool true, .string t => t.size + 1 | _, _ => 0)
  case atStart => exact ⟨s.data.toList, [], true, rfl, rfl, by simp, Hx, Own.nil _ _, Below.refl _ _⟩
  case round =>
    obtain ⟨r, p, en, rfl, rfl, hpl, hp, hown, hb⟩ := hrel
    have hres := (hb.block w.heap.size (by omega)).trans hres0
    have hbw := hbel0.trans (hb.mono hbel0.size)
    cases en with
    | false =>
      have hE : Hid (x = some p) := show _ = _ from hp.out.symm
      clear hp
      have hbk := hown.back (P := Tryd.prog) 27 9 Tryd.underlying27 Tryd.underlying5 Tryd.underlying9
      go_wp2_with (first | (refine wpL_store_row rfl 23 _ _ rfl w.heap.size #[.bool true, .string ⟨p.toArray⟩] rfl rfl 23 _ hres (by kernel_rfl) rfl (by simp [Value.oneCell']) ?_) | go_in)
      rw [hE.out]
      exact retU _ _ _ _ rfl hres hbw
    | true =>
      obtain ⟨xl, y, c, hcut⟩ : ∃ xl y c, cut r Pl.crs = (xl, y, c) := ⟨_, _, _, rfl⟩
      have hC := libCut r xl y c hcut m wr (by omega) (Hm.out.below hb)
      have hxl : xl.length + (if c then 2 else 0) + y.length ≤ r.length := by
        rcases Pl.cut_cases r with ⟨h1, -⟩ | ⟨i, h1, -, -, h2⟩
        · rw [h1] at hcut; cases hcut; simp
        · rw [h1] at hcut; cases hcut; simp; omega
      have hp1 := hp.out
      rw [if_pos rfl] at hp1
      have hbad := Pl.unq_bad (out := p) (l := r)
      have hend := fun o => Pl.unq_end (out := p) (l := r) (o := o)
      have hmore := fun o => Pl.unq_more (out := p) (l := r) (o := o)
      rw [hcut] at hbad hend hmore
      dsimp only at hbad hend hmore
      rw [hp1] at hbad hend hmore
      clear hp1 hp hcut
      have ht1 := trim_len xl
      have ht2 := body_len (Pl.trimR xl)
      go_wp2_with fail
      refine hC.mono ?_
      rintro e w2 ⟨rfl, hb2⟩
      clear hC
      have hB2 := hb.trans (hb2.mono hb.size)
      have hown2 := hown.keepb hb2
      go_wp2_with fail
      refine (libTrim xl _ (by omega)).mono ?_
      rintro e w3 ⟨rfl, hb3⟩
      have hB3 := hB2.trans (hb3.mono hB2.size)
      have hown3 := hown2.keepb hb3
      go_wp2_with fail
      refine (libSuf (Pl.trimR xl) _ (by omega)).mono ?_
      rintro e w4 ⟨rfl, rfl⟩
      have hQ := implQuotedBytes ⟨(Pl.body (Pl.trimR xl)).toArray⟩ w4 (by simp [ByteArray.size]; omega) (HE.out.below hB3)
      rw [show (⟨(Pl.body (Pl.trimR xl)).toArray⟩ : ByteArray).data.toList = Pl.body (Pl.trimR xl) from rfl] at hQ
      have hacc := Pl.qb_acc _ p (Pl.body (Pl.trimR xl)) (Nat.le_refl _)
      generalize hbd : Pl.body (Pl.trimR xl) = bd at hQ hacc ht2 hbad hend hmore
      generalize hsf : Pl.soft (Pl.trimR xl) = sf at hmore
      go_wp2_with fail
      refine hQ.mono ?_
      rintro e w5 ⟨hq, hb5⟩
      have hB5 := hB3.trans (hb5.mono hB3.size)
      have hown5 := hown3.keepb hb5
      have hres5 := (hB5.block w.heap.size (by omega)).trans hres0
      have hbw5 := hbel0.trans (hB5.mono hbel0.size)
      clear hQ
      cases hqb : Pl.qb [] bd with
      | none =>
        rw [hqb] at hq hacc
        obtain rfl : e = _ := hq
        have hE : Hid (x = none) := show _ = _ from hbad (by rw [hacc]; rfl)
        clear hbad hend hmore hacc hqb
        go_wp2_with (first | (refine wpL_store_row rfl 23 _ _ rfl w.heap.size #[.bool false, .string ⟨#[]⟩] rfl rfl 23 _ hres5 (by kernel_rfl) rfl (by simp [Value.oneCell']) ?_) | go_in)
        rw [hE.out]
        exact retU _ _ _ _ rfl hres5 hbw5
      | some d =>
        rw [hqb] at hq hacc
        obtain ⟨v5, rfl, hd5⟩ := hq
        have hdl := qb_len _ _ _ _ (Nat.le_refl _) hqb
        have hqp : Pl.qb p bd = some (p ++ d) := hacc
        simp only [List.length_nil] at hdl
        clear hacc hqb hbad
        cases c with
        | false =>
          have hE : Hid ((if false = true then Pl.unq (p ++ d) y else some (p ++ d)) = x) := show _ = _ by rw [if_neg (by decide)]; exact (hend _ hqp rfl).symm
          clear hend hmore hqp
          go_wp2_with (at_builtin; go_must (refine wp_appo (W := W) rfl _ _ 27 rfl i0 Tryd.underlying27 hi hy0 hy1 hy2 W.heap.size u3 p rfl hown5 w4.heap.size v5 d rfl hd5 (by omega) (Nat.le_refl _) hB5 ?_; intro v6 w6 hown6 hb6))
          go_roundw
          case rel => exact ⟨y, _, false, rfl, rfl, by simp at hxl ⊢; omega, hE, hown6, hb6⟩
          case measure => simp
        | true =>
          cases sf with
          | true =>
            have hE : Hid ((if true = true then Pl.unq (p ++ d) y else some (p ++ d)) = x) := show _ = _ by rw [if_pos rfl]; have := hmore _ hqp rfl; rw [if_pos rfl, List.append_nil] at this; exact this.symm
            clear hend hmore hqp
            go_wp2_with (at_builtin; go_must (refine wp_appo (W := W) rfl _ _ 27 rfl i0 Tryd.underlying27 hi hy0 hy1 hy2 W.heap.size u3 p rfl hown5 w4.heap.size v5 d rfl hd5 (by omega) (Nat.le_refl _) hB5 ?_; intro v6 w6 hown6 hb6))
            go_roundw
            case rel => exact ⟨y, _, true, rfl, rfl, by simp at hxl ⊢; omega, hE, hown6, hb6⟩
            case measure => simp [ByteArray.size] at hxl ⊢; omega
          | false =>
            have hE : Hid ((if true = true then Pl.unq (p ++ d ++ [13, 10]) y else some (p ++ d ++ [13, 10])) = x) := show _ = _ by rw [if_pos rfl]; have := hmore _ hqp rfl; rw [if_neg (by decide)] at this; exact this.symm
            clear hend hmore hqp
            go_wp2_with (at_builtin; go_must (first
              | (refine wp_apps (W := W) rfl _ _ 27 9 rfl i0 Tryd.underlying27 Tryd.underlying9 hi hy0 hy1 hy2 W.heap.size v6 (p ++ d) rfl hown6 ⟨#[13, 10]⟩ rfl (by rw [show (ByteArray.mk #[13, 10]).size = 2 from rfl]; simp; omega) (Nat.le_refl _) hb6 ?_; intro v7 w7 hown7 hb7)
              | (refine wp_appo (W := W) rfl _ _ 27 rfl i0 Tryd.underlying27 hi hy0 hy1 hy2 W.heap.size u3 p rfl hown5 w4.heap.size v5 d rfl hd5 (by omega) (Nat.le_refl _) hB5 ?_; intro v6 w6 hown6 hb6)))
            go_roundw
            case rel => exact ⟨y, _, true, rfl, rfl, by simp at hxl ⊢; omega, hE, hown7, hb7⟩
            case measure => simp [ByteArray.size] at hxl ⊢; omega
end Go.Proofs.YtkchnlfedkfpjaaDoor
