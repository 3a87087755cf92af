/- A slice of bytes whose block may bear a mark at its end (as one made of a text does), and appends of texts to it. -/
import Derived.Test.YtpjpnjbegjiegaaDoorWriteFrame
import Derived.Laws.IdiomCopy
import Derived.Deep.Upon
namespace Go.Proofs.YtpjpnjbegjiegaaDoor
open Go.RowKit Go.Lib
/-- Block g holds the bytes p at its beginning, and room up to cap. -/
structure Mk (B : Nat) (g cap : Nat) (p : List UInt8) (w : World) : Prop where
  base : B ≤ g
  room : p.length ≤ cap
  most : cap ≤ maxLen
  kind : ∃ cur fz, w.heap[g]? = some (Obj.cells cur 5 fz)
  there : ∀ j, j < cap → (w.cell? ⟨g, j, none⟩).isSome = true
  free : ∀ j, j < cap → w.frozen? ⟨g, j, none⟩ = false
  holds : ∀ j (h : j < p.length), w.cell? ⟨g, j, none⟩ = some (.int .u8 (p[j].toNat : Int))
def OwM (B : Nat) (v : Value) (p : List UInt8) (w : World) : Prop := Own B v p w ∨ ∃ g cap, v = .slice (some ⟨g, 0, none⟩) p.length cap ∧ Mk B g cap p w
theorem OwM.of {B : Nat} {v : Value} {p : List UInt8} {w : World} (h : Own B v p w) : OwM B v p w := .inl h
theorem Mk.lt {B g cap : Nat} {p : List UInt8} {w : World} (h : Mk B g cap p w) : g < w.heap.size := by
  obtain ⟨cur, fz, hk⟩ := h.kind
  exact heap_lt hk
theorem Mk.keep {B g cap : Nat} {p : List UInt8} {w w' : World} (h : Mk B g cap p w) (hb : Below w.heap.size w w') : Mk B g cap p w' := by
  have hg := h.lt
  refine ⟨h.base, h.room, h.most, ?_, fun j hj => ?_, fun j hj => ?_, fun j hj => ?_⟩
  · obtain ⟨cur, fz, hk⟩ := h.kind
    exact ⟨cur, fz, by rw [hb.block g hg]; exact hk⟩
  · rw [hb.cell (p := ⟨g, j, none⟩) hg]
    exact h.there j hj
  · rw [hb.frozen (p := ⟨g, j, none⟩) hg]
    exact h.free j hj
  · rw [hb.cell (p := ⟨g, j, none⟩) hg]
    exact h.holds j hj
theorem OwM.keep {B : Nat} {v : Value} {p : List UInt8} {w w' : World} (h : OwM B v p w) (hb : Below w.heap.size w w') : OwM B v p w' := by
  rcases h with h | ⟨g, cap, rfl, h⟩
  · exact .inl (h.keep hb)
  · exact .inr ⟨g, cap, rfl, h.keep hb⟩
theorem OwM.alloc {B : Nat} {v : Value} {p : List UInt8} {w : World} (h : OwM B v p w) (o : Obj) : OwM B v p (w.alloc o) := h.keep ((Below.refl _ _).alloc (Nat.le_refl _) _)
theorem OwM.drew' {B : Nat} {v : Value} {p : List UInt8} {w : World} (h : OwM B v p w) : OwM B v p w.drew := h.keep (Below.refl _ _).drew
theorem OwM.form {B : Nat} {v : Value} {p : List UInt8} {w : World} (h : OwM B v p w) : (v = .slice none 0 0 ∧ p = []) ∨ ∃ g cap, v = .slice (some ⟨g, 0, none⟩) p.length cap := by
  rcases h with h | ⟨g, cap, rfl, h⟩
  · exact h.form
  · exact .inr ⟨g, cap, rfl⟩
theorem OwM.back {P : Program} {B : Nat} {v : Value} {p : List UInt8} {w : World} (h : OwM B v p w) (src dst : TypeId) (hs : P.underlying src = some (.slice 5)) (he : P.underlying 5 = some (.int .u8)) (hd : P.underlying dst = some .string) :
    (convert src dst v).run P w = .ok (.string ⟨p.toArray⟩) w := by
  rcases h with h | ⟨g, cap, rfl, h⟩
  · exact h.back src dst hs he hd
  · exact run_convert_bytes_back w src dst 5 ⟨g, 0, none⟩ cap p hs he hd (fun j hj => by rw [add_off]; exact h.holds j hj)
theorem below_setCells (B : Nat) (W : World) (g : Nat) (hg : B ≤ g) : ∀ (vs : List Value) (o : Nat) (w : World), Below B W w → Below B W (w.setCells g o vs)
  | [], _, _, h => h
  | v :: r, o, _, h => below_setCells B W g hg r (o + 1) _ (h.setCell (p := ⟨g, o, none⟩) hg v)
theorem kind_setCells (g : Nat) : ∀ (vs : List Value) (o : Nat) (w : World), (∃ cur fz, w.heap[g]? = some (Obj.cells cur 5 fz)) → ∃ cur fz, (w.setCells g o vs).heap[g]? = some (Obj.cells cur 5 fz)
  | [], _, _, h => h
  | v :: r, o, _, ⟨cur, fz, h⟩ => kind_setCells g r (o + 1) _ (by
      refine ⟨cur.setIfInBounds o v, fz, ?_⟩
      simp [World.setCell, Array.getElem?_modify, h])
theorem strCells_at (s : ByteArray) (j : Nat) (h : j < s.size) : (strCells s)[j]'(by rw [strCells_length]; exact h) = .int .u8 (s[j].toNat : Int) := by
  simp [strCells]
  rfl
/-- The append of a text where there is room: the cells behind are set. -/
theorem run_roomM {P : Program} (w : World) (t u ty : TypeId) (i : TypeInfo) (ht : P.underlying t = some (.slice 5)) (hu : P.underlying u = some .string) (hi : P.info? 5 = some i) (hs1 : i.size = 1)
    {B g cap : Nat} {p : List UInt8} (h : Mk B g cap p w) (s : ByteArray) (hroom : p.length + s.size ≤ cap) :
    (Builtin.append_ #[t, u] ty #[.slice (some ⟨g, 0, none⟩) p.length cap, .string s]).run P w = .ok (.slice (some ⟨g, 0, none⟩) (p.length + s.size) cap) (w.setCells g p.length (strCells s)) := by
  have hf := run_firstCells_string (P := P) w 1 s
  have hst := run_storeCells_cells (P := P) g p.length (strCells s) 0 w (fun j hj => h.there _ (by rw [strCells_length] at hj; omega)) (fun j hj => h.free _ (by rw [strCells_length] at hj; omega)) (strCells_oneCell s)
  simp only [Nat.add_zero] at hst
  simp [Builtin.append_, run_underlying ht, run_underlying hu, sizeOf, typeInfo, hi, hs1, Builtin.lenOf, hroom, hf, Addr.add_lit, hst]
theorem Mk.more {B g cap : Nat} {p : List UInt8} {w : World} (h : Mk B g cap p w) (s : ByteArray) (hroom : p.length + s.size ≤ cap) : Mk B g cap (p ++ s.data.toList) (w.setCells g p.length (strCells s)) := by
  have hlen : (p ++ s.data.toList).length = p.length + s.size := by rw [List.length_append, Pl.len_list]
  have hin := World.cell?_setCells_in g (strCells s) p.length w (fun j hj => h.there _ (by rw [strCells_length] at hj; omega))
  have hout := World.cell?_setCells_out g (strCells s) p.length w
  refine ⟨h.base, by omega, h.most, kind_setCells g _ _ _ h.kind, fun j hj => ?_, fun j hj => ?_, fun j hj => ?_⟩
  · by_cases h1 : j < p.length ∨ p.length + (strCells s).length ≤ j
    · rw [hout ⟨g, j, none⟩ (fun _ _ => h1)]
      exact h.there j hj
    · have hj' : j - p.length < (strCells s).length := by omega
      have := hin (j - p.length) hj'
      rw [show p.length + (j - p.length) = j from by omega] at this
      rw [this]
      rfl
  · rw [World.frozen?_setCells]
    exact h.free j hj
  · by_cases h1 : j < p.length
    · rw [hout ⟨g, j, none⟩ (fun _ _ => .inl h1), h.holds j h1, List.getElem_append_left h1]
    · have hj2 : j - p.length < s.size := by omega
      have := hin (j - p.length) (by rw [strCells_length]; exact hj2)
      rw [show p.length + (j - p.length) = j from by omega] at this
      rw [this, strCells_at s _ hj2, List.getElem_append_right (by omega)]
      rfl
/-- An append of a text to a slice that may bear a mark. -/
theorem wp_appsM {P : Program} {W w : World} {ops : Array Oper} {rest : List Oper} {o : Oper} {a : Act} {Q : Exit → Act → World → Prop} (hgd : o.guard = none) (s x : Operand) (t u : TypeId)
    (ho : o.op = .call { callee := .builtin .append, args := #[s, x], argTypes := #[t, u] })
    (i : TypeInfo) (ht : P.underlying t = some (.slice 5)) (hu : P.underlying u = some .string) (hi : P.info? 5 = some i) (hz : i.zero = some (.int .u8 0)) (hsize : i.size = 1) (hby : i.bytes = 1)
    (B : Nat) (v : Value) (p : List UInt8) (hs : a.eval s = v) (hown : OwM B v p w) (news : ByteArray)
    (hx : a.eval x = .string news) (hlen : p.length + news.size ≤ 140737488355328) (hB : B ≤ W.heap.size) (hb : Below B W w) (hf : FrT 5 W w)
    (h : ∀ v' w', OwM B v' (p ++ news.data.toList) w' → Below B W w' → FrT 5 W w' → wpList P ops Q rest (a.put o.dst v') w') : wpList P ops Q (o :: rest) a w := by
  rcases hown with hown | ⟨g, cap, rfl, hk⟩
  · exact wp_appsF hgd s x t u ho i ht hu hi hz hsize hby B v p hs hown news hx hlen hB hb hf (fun v' w' h1 h2 h3 => h v' w' (.inl h1) h2 h3)
  · have hsz := hb.size
    have hnl : (p ++ news.data.toList).length = p.length + news.size := by rw [List.length_append, Pl.len_list]
    refine wpList_plain hgd fun K hK => ?_
    by_cases hroom : p.length + news.size ≤ cap
    · have hr := run_roomM (P := P) w t u o.type i ht hu hi hsize hk news hroom
      unfold Oper.wp execOp
      simp only [ho, resolve, invoke, builtin, Sem.run_bind, Sem.run_pure, Result.andThen_ok, List.map_toArray, List.map_cons, List.map_nil, hs, hx, hr]
      refine hK _ _ (h _ _ (.inr ⟨g, cap, by rw [hnl], hk.more news hroom⟩) (below_setCells B W g hk.base _ _ _ hb) (hf.trans ⟨(below_setCells 0 w g (Nat.zero_le _) _ _ _ (Below.refl _ _)).size, fun k c t' ht' hk' => ?_⟩))
      rw [World.heap_setCells_other w g _ _ (heap_lt hk') (fun e => ?_)]
      · exact hk'
      · obtain ⟨cur, fz, hc⟩ := hk.kind
        rw [e, hc] at hk'
        cases hk'
        exact ht' rfl
    · have holds : ∀ j x, (Lib.byteCells p)[j]? = some x → w.cell? ((⟨g, 0, none⟩ : Addr).add j) = some x := by
        intro j x hj
        rw [add_off]
        have hjl : j < p.length := by
          have := (List.getElem?_eq_some_iff.1 hj).1
          rwa [Lib.byteCells_length] at this
        rw [hk.holds j hjl, ← hj]
        simp [Lib.byteCells, hjl]
      have h63 : p.length + news.size ≤ maxLen := by unfold maxLen; omega
      have hr := run_append_grow_string (P := P) w t u o.type 5 i (.int .u8 0) ht hu hi hz ⟨g, 0, none⟩ p.length cap (Lib.byteCells p) (by rw [Lib.byteCells_length, hsize, Nat.mul_one]) holds news (by omega) (by omega) (growslice_fits (by omega) (by rw [hby]; omega))
      unfold Oper.wp execOp
      simp only [ho, resolve, invoke, builtin, Sem.run_bind, Sem.run_pure, Result.andThen_ok, List.map_toArray, List.map_cons, List.map_nil, hs, hx, hr]
      have hb2 : Below w.heap.size w (w.drew.alloc (.cells ((Lib.byteCells p).toArray ++ (strCells news).toArray ++ Builtin.zeroCells (Value.int .u8 0).cells (grownCap w (p.length + news.size) cap 5 - (p.length + news.size))) 5)) := (Below.refl _ _).drew.alloc (Nat.le_refl _) _
      refine hK _ _ (h _ _ (.inl ?_) (hb.trans (hb2.mono (Nat.le_trans hB hsz))) (hf.trans (FrT.of_below hb2)))
      unfold Own
      rw [hnl]
      have hge := grownCap_ge w (p.length + news.size) cap 5
      refine ⟨by rw [Lib.byteCells_length, hnl, Nat.mul_one], .inr ⟨w.heap.size, _, _, rfl, Nat.le_trans hB hsz, heap_alloc_new w.drew _, hge, grownCap_le_maxLen w (p.length + news.size) cap 5 h63, ?_, ?_⟩⟩
      · simp only [Array.size_append, List.size_toArray, size_zeroCells, Lib.byteCells_length, strCells_length]
        show p.length + news.size + (grownCap w (p.length + news.size) cap 5 - (p.length + news.size)) * 1 = _
        omega
      · rw [Lib.byteCells_append]
        simp only [Array.toList_append, List.append_assoc]
        rw [← List.append_assoc, Nat.mul_one]
        have e : p.length + news.size = (Lib.byteCells p ++ strCells news).length := by rw [List.length_append, Lib.byteCells_length, strCells_length]
        rw [e]
        exact List.take_left
set_option maxHeartbeats 1000000 in
theorem implNamed (B : Nat) (v : Value) (p : List UInt8) (name sign text : ByteArray) (w : World) (hB : B ≤ w.heap.size) (hown : OwM B v p w) (hp : p.length ≤ 100000000) (hn : name.size ≤ 10000000) (hs : sign.size ≤ 10000000) (ht : text.size ≤ 10000000) :
    Calls Tryd.prog 35 #[v, .string name, .string sign, .string text] w fun e w' => ∃ v', e = .returned v' ∧ OwM B v' (p ++ [59, 32] ++ name.data.toList ++ sign.data.toList ++ text.data.toList) w' ∧ Below B w w' ∧ FrT 5 w w' := by
  obtain ⟨i0, hi, hz0, hz1, hz2⟩ := info_parts Tryd.info5
  go_enter Tryd.func35, Tryd.ntmps35
  go_wp2_with (first
    | (at_builtin; refine wp_appsM (W := w) rfl _ _ 43 9 rfl i0 Tryd.underlying43 Tryd.underlying9 hi hz0 hz1 hz2 B v3 _ rfl hown3 text rfl (by simp; omega) hB hb3 hf3 ?_; intro v4 w4 hown4 hb4 hf4)
    | (at_builtin; refine wp_appsM (W := w) rfl _ _ 43 9 rfl i0 Tryd.underlying43 Tryd.underlying9 hi hz0 hz1 hz2 B v2 _ rfl hown2 sign rfl (by simp; omega) hB hb2 hf2 ?_; intro v3 w3 hown3 hb3 hf3)
    | (at_builtin; refine wp_appsM (W := w) rfl _ _ 43 9 rfl i0 Tryd.underlying43 Tryd.underlying9 hi hz0 hz1 hz2 B v1 _ rfl hown1 name rfl (by simp; omega) hB hb1 hf1 ?_; intro v2 w2 hown2 hb2 hf2)
    | (at_builtin; refine wp_appsM (W := w) rfl _ _ 43 9 rfl i0 Tryd.underlying43 Tryd.underlying9 hi hz0 hz1 hz2 B v p rfl hown ⟨#[59, 32]⟩ rfl (by simp [ByteArray.size]; omega) hB (Below.refl _ _) (FrT.refl _ _) ?_; intro v1 w1 hown1 hb1 hf1))
  go_ret
  refine ⟨v4, rfl, ?_, hb4, hf4⟩
  simpa using hown4
end Go.Proofs.YtpjpnjbegjiegaaDoor
