
/- A signature's value up to its head's sum, the program's side: the whole. -/

/- A signature's value; the last field of a name; the program's side. -/
import Derived.Test.YtgabjiamabbheaaGreatDoorFrontImpl
import Derived.Test.YtgabjiamabbheaaGreatDoorAnyVals
import Derived.Laws.Rows
import Derived.Test.YtgabjiamabbheaaGreatDoorLow
import Derived.Test.YtgabjiamabbheaaGreatDoorWriteHead
namespace Go.Proofs.YtgabjiamabbheaaGreatDoor
open Go.RowKit Go.Lib
abbrev sigV (d s : ByteArray) (A B : Int) (n : Value) (h b : Int) (x y p q : Nat) : Value := .agg #[.string d, .string s, .int .i64 A, .int .i64 B, n, .int .i64 h, .int .i64 b, .int .i64 x, .int .i64 y, .int .i64 p, .int .i64 q]
set_option maxRecDepth 20000 in
theorem hp_lt' {w : World} {b : Nat} {ob : Obj} (h : w.heap[b]? = some ob) : b < w.heap.size := by
  rcases Nat.lt_or_ge b w.heap.size with h' | h'
  · exact h'
  · rw [Array.getElem?_eq_none h'] at h; cases h
set_option maxRecDepth 20000 in
theorem hp_al (w : World) (ob : Obj) : (w.alloc ob).heap[w.heap.size]? = some ob := heap_alloc_at w ob
set_option maxRecDepth 20000 in
theorem dec_len10 : ∀ (k n : Nat), n < 10 ^ (k + 1) → (decDigits n).length ≤ k + 1
  | 0, n, h => by
    rw [decDigits, dif_pos (by omega)]
    simp
  | k + 1, n, h => by
    rw [decDigits]
    by_cases h10 : n < 10
    · rw [dif_pos h10]; simp
    · rw [dif_neg h10, List.length_append]
      have := dec_len10 k (n / 10) (by
        rw [Nat.pow_succ] at h
        omega)
      simp only [List.length_cons, List.length_nil]
      omega
set_option maxRecDepth 20000 in
theorem sumT_size (a b : Nat) (ha : a < 2147483647) (hb : b < 2147483647) : (sumT a b).size ≤ 21 := by
  have h1 := dec_len10 9 a (by omega)
  have h2 := dec_len10 9 b (by omega)
  unfold sumT
  rw [ByteArray.size_append, ByteArray.size_append]
  show (decDigits a).toArray.size + 1 + (decDigits b).toArray.size ≤ 21
  rw [List.size_toArray, List.size_toArray]
  omega
set_option maxRecDepth 20000 in
theorem jc_join : ∀ F : List ByteArray, Lib.join (F.map (·.data.toList)) [58] = jc F
  | [] => rfl
  | [a] => by simp [Lib.join, List.intercalate, jc]
  | a :: b :: r => by
    have ih := jc_join (b :: r)
    simp only [Lib.join, List.intercalate, List.map_cons, List.intersperse, List.flatten_cons] at ih ⊢
    rw [ih]
    show _ = a.data.toList ++ 58 :: jc (b :: r)
    simp
set_option maxRecDepth 20000 in
theorem cat_front (d s : ByteArray) (F : List ByteArray) (h b : Int) (x y : Nat) : catT [⟨#[32, 100, 61]⟩, d, ⟨#[59, 32, 115, 61]⟩, s, ⟨#[59, 32, 99, 61]⟩, formT h, ⟨#[47]⟩, formT b, ⟨#[59, 32, 104, 61]⟩, ⟨(jc F).toArray⟩, ⟨#[59, 32, 98, 61]⟩, sumT x y, ⟨#[59, 32, 120, 61]⟩] = frontT d s F h b x y := by
  unfold catT frontT
  apply ByteArray.ext
  simp [ByteArray.data_append]
abbrev uvRow (d s th tb tj ts : ByteArray) : Obj := .cells #[.string ⟨#[32, 100, 61]⟩, .string d, .string ⟨#[59, 32, 115, 61]⟩, .string s, .string ⟨#[59, 32, 99, 61]⟩, .string th, .string ⟨#[47]⟩, .string tb, .string ⟨#[59, 32, 104, 61]⟩, .string tj, .string ⟨#[59, 32, 98, 61]⟩, .string ts, .string ⟨#[59, 32, 120, 61]⟩] 9
/-- What an operation yields. -/
def uvFact (g : Nat) (d s : ByteArray) (h b : Int) (fb fo n cap : Nat) (x y : Nat) (th tb tj ts R : ByteArray) (j : Nat) (v : Value) (w : World) : Prop :=
  match j with
  | 0 => v = .pointer (some ⟨g, 0, none⟩)
  | 1 => v = .pointer (some ⟨g, 0, none⟩)
  | 2 => v = .pointer (some ⟨g, 0, none⟩)
  | 3 => v = .string d
  | 4 => v = .pointer (some ⟨g, 0, none⟩)
  | 5 => v = .pointer (some ⟨g, 0, none⟩)
  | 6 => v = .pointer (some ⟨g, 1, none⟩)
  | 7 => v = .string s
  | 8 => v = .pointer (some ⟨g, 0, none⟩)
  | 9 => v = .pointer (some ⟨g, 5, none⟩)
  | 10 => v = .int .i64 h
  | 11 => v = .string th
  | 12 => v = .pointer (some ⟨g, 0, none⟩)
  | 13 => v = .pointer (some ⟨g, 6, none⟩)
  | 14 => v = .int .i64 b
  | 15 => v = .string tb
  | 16 => v = .pointer (some ⟨g, 0, none⟩)
  | 17 => v = .pointer (some ⟨g, 4, none⟩)
  | 18 => v = .slice (some ⟨fb, fo, none⟩) n cap
  | 19 => v = .string tj
  | 20 => v = .pointer (some ⟨g, 7, none⟩)
  | 21 => v = .agg #[.int .i64 x, .int .i64 y]
  | 22 => v = .string ts
  | 23 => ∃ bk, v = .slice (some ⟨bk, 0, none⟩) 13 13 ∧ w.heap[bk]? = some (uvRow d s th tb tj ts)
  | 24 => v = .string R
  | 25 => v = .string R
  | _ => True
def uvDst (j : Nat) : Nat := if j = 25 then 2 else j + 3
abbrev uvAct (g : Nat) (v0 : Value) (z : Nat → Value) : Act := { tmps := #[v0, .pointer (some ⟨g, 0, none⟩), z 2, z 3, z 4, z 5, z 6, z 7, z 8, z 9, z 10, z 11, z 12, z 13, z 14, z 15, z 16, z 17, z 18, z 19, z 20, z 21, z 22, z 23, z 24, z 25, z 26, z 27], defers := [] }
set_option maxRecDepth 20000 in
theorem uvFact.gr {g : Nat} {d s : ByteArray} {h b : Int} {fb fo n cap : Nat} {x y : Nat} {th tb tj ts R : ByteArray} (j : Nat) (v : Value) (w w' : World) (hf : uvFact g d s h b fb fo n cap x y th tb tj ts R j v w) (hb : Below w.heap.size w w') : uvFact g d s h b fb fo n cap x y th tb tj ts R j v w' := by
  unfold uvFact at hf ⊢
  split
  case h_24 =>
    obtain ⟨bk, rfl, hk⟩ := hf
    exact ⟨bk, rfl, by rw [hb.block bk (hp_lt' hk)]; exact hk⟩
  all_goals first | exact hf | trivial
set_option maxRecDepth 20000 in
set_option maxHeartbeats 4000000 in
theorem implFront (d s : ByteArray) (A B h b : Int) (fb fo : Nat) (F : List ByteArray) (cap x y p q : Nat) (w : World) (hd : d.size ≤ 300) (hs : s.size ≤ 300) (hF : ∀ (j : Nat) t, F[j]? = some t → w.cell? ⟨fb, fo + j, none⟩ = some (.string t)) (hfb : fb < w.heap.size) (hlen : F.length ≤ 30) (hcap : F.length ≤ cap) (hsz : ∀ t ∈ F, t.size ≤ 70) (hh : h = 0 ∨ h = 1) (hb : b = 0 ∨ b = 1) (hx : x < 2147483647) (hy : y < 2147483647) (hP : PTab w) :
    Calls Tryz.prog 25 #[sigV d s A B (.slice (some ⟨fb, fo, none⟩) F.length cap) h b x y p q] w fun e w' => e = .returned (.string (frontT d s F h b x y)) ∧ Below w.heap.size w w' := by
  obtain ⟨g, hg⟩ : ∃ g, g = w.heap.size := ⟨_, rfl⟩
  obtain ⟨W, hW⟩ : ∃ W, W = w.alloc (.cells #[.string d, .string s, .int .i64 A, .int .i64 B, .slice (some ⟨fb, fo, none⟩) F.length cap, .int .i64 h, .int .i64 b, .int .i64 x, .int .i64 y, .int .i64 p, .int .i64 q] 55) := ⟨_, rfl⟩
  have hbW : Below w.heap.size w W := by rw [hW]; exact (Below.refl _ _).alloc (Nat.le_refl _) _
  have hgW : g < W.heap.size := by rw [hW, hg]; simp
  have c0 : W.cell? ⟨g, 0, none⟩ = some (.string d) := by rw [hW, hg]; simp
  have c1 : W.cell? ⟨g, 1, none⟩ = some (.string s) := by rw [hW, hg]; simp
  have c4 : W.cell? ⟨g, 4, none⟩ = some (.slice (some ⟨fb, fo, none⟩) F.length cap) := by rw [hW, hg]; simp
  have c5 : W.cell? ⟨g, 5, none⟩ = some (.int .i64 h) := by rw [hW, hg]; simp
  have c6 : W.cell? ⟨g, 6, none⟩ = some (.int .i64 b) := by rw [hW, hg]; simp
  have c7 : W.cell? ⟨g, 7, none⟩ = some (.int .i64 x) := by rw [hW, hg]; simp
  have c8 : W.cell? ⟨g, 8, none⟩ = some (.int .i64 y) := by rw [hW, hg]; simp
  have hPW : PTab W := ptab_on hP (ptab_lt hP) hbW
  have hFW : ∀ (j : Nat) t, F[j]? = some t → W.cell? ⟨fb, fo + j, none⟩ = some (.string t) := fun j t ht => (hbW.cell (show fb < w.heap.size from hfb)).trans (hF j t ht)
  have hfW : fb < W.heap.size := Nat.lt_of_lt_of_le hfb hbW.size
  have hjl := jc_len F hsz
  have hFh : Hid (∀ wr, Below W.heap.size W wr → Calls Tryz.prog 61 #[.int .i64 h] wr fun e w' => e = .returned (.string (formT h)) ∧ Below wr.heap.size wr w') := fun wr _ => (implFormT h hh wr).mono (by rintro e w' ⟨rfl, rfl⟩; exact ⟨rfl, Below.refl _ _⟩)
  have hFb : Hid (∀ wr, Below W.heap.size W wr → Calls Tryz.prog 61 #[.int .i64 b] wr fun e w' => e = .returned (.string (formT b)) ∧ Below wr.heap.size wr w') := fun wr _ => (implFormT b hb wr).mono (by rintro e w' ⟨rfl, rfl⟩; exact ⟨rfl, Below.refl _ _⟩)
  have hS : Hid (∀ wr, Below W.heap.size W wr → Calls Tryz.prog 63 #[.agg #[.int .i64 x, .int .i64 y]] wr fun e w' => e = .returned (.string (sumT x y)) ∧ Below wr.heap.size wr w') := fun wr hR => implSumT x y hx hy wr (ptab_on hPW (ptab_lt hPW) hR)
  have hJ : Hid (∀ wr, Below W.heap.size W wr → Calls Tryz.prog 62 #[.slice (some ⟨fb, fo, none⟩) F.length cap, .string ⟨#[58]⟩] wr fun e w' => e = .returned (.string ⟨(jc F).toArray⟩) ∧ Below wr.heap.size wr w') := by
    intro wr hR
    refine (Tryz.strings_Join fb fo cap F ⟨#[58]⟩ wr (fun j t ht => (hR.cell (show fb < W.heap.size from hfW)).trans (hFW j t ht)) (Nat.lt_of_lt_of_le hfW hR.size) (by omega) hcap ?_).mono ?_
    · show (Lib.join (F.map (·.data.toList)) [58]).length ≤ _
      rw [jc_join]
      omega
    · rintro e w' ⟨rfl, hb'⟩
      refine ⟨?_, hb'⟩
      show Ending.returned (.string ⟨(Lib.join (F.map (·.data.toList)) [58]).toArray⟩) = _
      rw [jc_join]
  have zh : (formT h).size ≤ 7 := by unfold formT; split <;> decide
  have zb : (formT b).size ≤ 7 := by unfold formT; split <;> decide
  have zs := sumT_size x y hx hy
  have zj : (⟨(jc F).toArray⟩ : ByteArray).size ≤ 2130 := by
    show (jc F).toArray.size ≤ _
    rw [List.size_toArray]
    omega
  have hcat := cat_front d s F h b x y
  have hWr : Hid (∀ (wr : World) (bk : Nat), wr.heap[bk]? = some (uvRow d s (formT h) (formT b) ⟨(jc F).toArray⟩ (sumT x y)) → Calls Tryz.prog 60 #[.slice (some ⟨bk, 0, none⟩) 13 13] wr fun e w' => e = .returned (.string (frontT d s F h b x y)) ∧ Below wr.heap.size wr w') := by
    intro wr bk hk
    rw [← hcat]
    generalize formT h = th at *
    generalize formT b = tb at *
    generalize (⟨(jc F).toArray⟩ : ByteArray) = tj at *
    generalize sumT x y = ts at *
    refine implWrittenAll [⟨#[32, 100, 61]⟩, d, ⟨#[59, 32, 115, 61]⟩, s, ⟨#[59, 32, 99, 61]⟩, th, ⟨#[47]⟩, tb, ⟨#[59, 32, 104, 61]⟩, tj, ⟨#[59, 32, 98, 61]⟩, ts, ⟨#[59, 32, 120, 61]⟩] bk 13 wr ?_ (hp_lt' hk) (by simp) (by simp) ?_
    · intro j t ht
      have hcell : ∀ (v : Value), (#[Value.string ⟨#[32, 100, 61]⟩, .string d, .string ⟨#[59, 32, 115, 61]⟩, .string s, .string ⟨#[59, 32, 99, 61]⟩, .string th, .string ⟨#[47]⟩, .string tb, .string ⟨#[59, 32, 104, 61]⟩, .string tj, .string ⟨#[59, 32, 98, 61]⟩, .string ts, .string ⟨#[59, 32, 120, 61]⟩] : Array Value)[0 + j]? = some v → wr.cell? ⟨bk, 0 + j, none⟩ = some v := by
        intro v hv
        exact (cell_of_row wr bk (0 + j) _ _ _ hk).trans hv
      refine hcell _ ?_
      have hj : j < 13 := by
        have := (List.getElem?_eq_some_iff.1 ht).1
        simpa using this
      rw [Nat.zero_add]
      match j, hj, ht with
      | 0, _, ht => cases ht; rfl
      | 1, _, ht => cases ht; rfl
      | 2, _, ht => cases ht; rfl
      | 3, _, ht => cases ht; rfl
      | 4, _, ht => cases ht; rfl
      | 5, _, ht => cases ht; rfl
      | 6, _, ht => cases ht; rfl
      | 7, _, ht => cases ht; rfl
      | 8, _, ht => cases ht; rfl
      | 9, _, ht => cases ht; rfl
      | 10, _, ht => cases ht; rfl
      | 11, _, ht => cases ht; rfl
      | 12, _, ht => cases ht; rfl
    · have l3 : (⟨#[32, 100, 61]⟩ : ByteArray).size = 3 := rfl
      have l4 : (⟨#[59, 32, 115, 61]⟩ : ByteArray).size = 4 := rfl
      have l5 : (⟨#[59, 32, 99, 61]⟩ : ByteArray).size = 4 := rfl
      have l6 : (⟨#[47]⟩ : ByteArray).size = 1 := rfl
      have l7 : (⟨#[59, 32, 104, 61]⟩ : ByteArray).size = 4 := rfl
      have l8 : (⟨#[59, 32, 98, 61]⟩ : ByteArray).size = 4 := rfl
      have l9 : (⟨#[59, 32, 120, 61]⟩ : ByteArray).size = 4 := rfl
      simp only [allSz, List.map_cons, List.map_nil, List.sum_cons, List.sum_nil, l3, l4, l5, l6, l7, l8, l9]
      omega
  clear hcat zh zb zs zj hjl hF hFW hPW hP hsz hh hb hx hy
  generalize frontT d s F h b x y = R at *
  generalize formT h = th at *
  generalize formT b = tb at *
  generalize (⟨(jc F).toArray⟩ : ByteArray) = tj at *
  generalize sumT x y = ts at *
  go_enter Tryz.func25, Tryz.ntmps25
  go_wp2
  rw [← hW, ← hg]
  clear hW hg
  refine wp_region_any (by kernel_rfl) ?_
  refine wpAny_vals uvDst (uvAct g (sigV d s A B (.slice (some ⟨fb, fo, none⟩) F.length cap) h b x y p q)) (uvFact g d s h b fb fo F.length cap x y th tb tj ts R) (fun w w' => Below w.heap.size w w') W (by kernel_rfl) ?_ (fun a b c h1 h2 => h1.trans (h2.mono h1.size)) uvFact.gr ?_ ?_ _ _ _ _ rfl rfl rfl ((Below.refl _ _).drew) (fun j => if j = 2 then .string ⟨#[]⟩ else undef) rfl
  · intro i j hi hj hne
    have hi : i < 26 := hi
    have hj : j < 26 := hj
    unfold uvDst
    split <;> split <;> omega
  · intro z wr hR hf
    have e : z 2 = .string R := hf 25 (by decide)
    go_simp
    go_wp2
    go_ret
    exact ⟨by rw [← e]; rfl, hbW.trans (hR.mono hbW.size)⟩
  · intro z L wr i hR hi hf
    obtain ⟨hlt, hL⟩ := mem_ready hi
    have hlt : i < 26 := hlt
    clear hL hbW
    rcases (show i = 0 ∨ i = 1 ∨ i = 2 ∨ i = 3 ∨ i = 4 ∨ i = 5 ∨ i = 6 ∨ i = 7 ∨ i = 8 ∨ i = 9 ∨ i = 10 ∨ i = 11 ∨ i = 12 ∨ i = 13 ∨ i = 14 ∨ i = 15 ∨ i = 16 ∨ i = 17 ∨ i = 18 ∨ i = 19 ∨ i = 20 ∨ i = 21 ∨ i = 22 ∨ i = 23 ∨ i = 24 ∨ i = 25 by omega) with rfl | rfl | rfl | rfl | rfl | rfl | rfl | rfl | rfl | rfl | rfl | rfl | rfl | rfl | rfl | rfl | rfl | rfl | rfl | rfl | rfl | rfl | rfl | rfl | rfl | rfl
    · clear hi hf
      refine wpOp_step rfl (fun K hK => ?_)
      go_simp
      exact hK _ _ ⟨.pointer (some ⟨g, 0, none⟩), by simp [put, uvDst], rfl, Below.refl _ _⟩
    · have e0 : z 3 = .pointer (some ⟨g, 0, none⟩) := hf 0 (ready_dep hi rfl 0 (by kernel_rfl))
      clear hi hf
      refine wpOp_step rfl (fun K hK => ?_)
      go_simp
      exact hK _ _ ⟨.pointer (some ⟨g, 0, none⟩), by simp [put, uvDst, e0], rfl, Below.refl _ _⟩
    · have e1 : z 4 = .pointer (some ⟨g, 0, none⟩) := hf 1 (ready_dep hi rfl 1 (by kernel_rfl))
      clear hi hf
      refine wpOp_step rfl (fun K hK => ?_)
      go_simp
      exact hK _ _ ⟨.pointer (some ⟨g, 0, none⟩), by simp [put, uvDst, e1], rfl, Below.refl _ _⟩
    · have e2 : z 5 = .pointer (some ⟨g, 0, none⟩) := hf 2 (ready_dep hi rfl 2 (by kernel_rfl))
      have qc0 : wr.cell? ⟨g, 0, none⟩ = some (.string d) := (hR.cell (show g < W.heap.size from hgW)).trans c0
      clear hi hf
      refine wpOp_step rfl (fun K hK => ?_)
      go_simp
      exact hK _ _ ⟨.string d, by simp [put, uvDst, e2], rfl, Below.refl _ _⟩
    · clear hi hf
      refine wpOp_step rfl (fun K hK => ?_)
      go_simp
      exact hK _ _ ⟨.pointer (some ⟨g, 0, none⟩), by simp [put, uvDst], rfl, Below.refl _ _⟩
    · have e4 : z 7 = .pointer (some ⟨g, 0, none⟩) := hf 4 (ready_dep hi rfl 4 (by kernel_rfl))
      clear hi hf
      refine wpOp_step rfl (fun K hK => ?_)
      go_simp
      exact hK _ _ ⟨.pointer (some ⟨g, 0, none⟩), by simp [put, uvDst, e4], rfl, Below.refl _ _⟩
    · have e5 : z 8 = .pointer (some ⟨g, 0, none⟩) := hf 5 (ready_dep hi rfl 5 (by kernel_rfl))
      clear hi hf
      refine wpOp_step rfl (fun K hK => ?_)
      go_simp
      exact hK _ _ ⟨.pointer (some ⟨g, 1, none⟩), by simp [put, uvDst, e5], rfl, Below.refl _ _⟩
    · have e6 : z 9 = .pointer (some ⟨g, 1, none⟩) := hf 6 (ready_dep hi rfl 6 (by kernel_rfl))
      have qc1 : wr.cell? ⟨g, 1, none⟩ = some (.string s) := (hR.cell (show g < W.heap.size from hgW)).trans c1
      clear hi hf
      refine wpOp_step rfl (fun K hK => ?_)
      go_simp
      exact hK _ _ ⟨.string s, by simp [put, uvDst, e6], rfl, Below.refl _ _⟩
    · clear hi hf
      refine wpOp_step rfl (fun K hK => ?_)
      go_simp
      exact hK _ _ ⟨.pointer (some ⟨g, 0, none⟩), by simp [put, uvDst], rfl, Below.refl _ _⟩
    · have e8 : z 11 = .pointer (some ⟨g, 0, none⟩) := hf 8 (ready_dep hi rfl 8 (by kernel_rfl))
      clear hi hf
      refine wpOp_step rfl (fun K hK => ?_)
      go_simp
      exact hK _ _ ⟨.pointer (some ⟨g, 5, none⟩), by simp [put, uvDst, e8], rfl, Below.refl _ _⟩
    · have e9 : z 12 = .pointer (some ⟨g, 5, none⟩) := hf 9 (ready_dep hi rfl 9 (by kernel_rfl))
      have qc5 : wr.cell? ⟨g, 5, none⟩ = some (.int .i64 h) := (hR.cell (show g < W.heap.size from hgW)).trans c5
      clear hi hf
      refine wpOp_step rfl (fun K hK => ?_)
      go_simp
      exact hK _ _ ⟨.int .i64 h, by simp [put, uvDst, e9], rfl, Below.refl _ _⟩
    · have e10 : z 13 = .int .i64 h := hf 10 (ready_dep hi rfl 10 (by kernel_rfl))
      clear hi hf
      refine wpOp_step rfl (fun K hK => ?_)
      go_simp
      refine (hFh.out wr hR).mono ?_
      rintro e w2 ⟨rfl, hb2⟩
      go_simp
      exact hK _ _ ⟨.string th, by simp [put, uvDst, e10], rfl, hb2⟩
    · clear hi hf
      refine wpOp_step rfl (fun K hK => ?_)
      go_simp
      exact hK _ _ ⟨.pointer (some ⟨g, 0, none⟩), by simp [put, uvDst], rfl, Below.refl _ _⟩
    · have e12 : z 15 = .pointer (some ⟨g, 0, none⟩) := hf 12 (ready_dep hi rfl 12 (by kernel_rfl))
      clear hi hf
      refine wpOp_step rfl (fun K hK => ?_)
      go_simp
      exact hK _ _ ⟨.pointer (some ⟨g, 6, none⟩), by simp [put, uvDst, e12], rfl, Below.refl _ _⟩
    · have e13 : z 16 = .pointer (some ⟨g, 6, none⟩) := hf 13 (ready_dep hi rfl 13 (by kernel_rfl))
      have qc6 : wr.cell? ⟨g, 6, none⟩ = some (.int .i64 b) := (hR.cell (show g < W.heap.size from hgW)).trans c6
      clear hi hf
      refine wpOp_step rfl (fun K hK => ?_)
      go_simp
      exact hK _ _ ⟨.int .i64 b, by simp [put, uvDst, e13], rfl, Below.refl _ _⟩
    · have e14 : z 17 = .int .i64 b := hf 14 (ready_dep hi rfl 14 (by kernel_rfl))
      clear hi hf
      refine wpOp_step rfl (fun K hK => ?_)
      go_simp
      refine (hFb.out wr hR).mono ?_
      rintro e w2 ⟨rfl, hb2⟩
      go_simp
      exact hK _ _ ⟨.string tb, by simp [put, uvDst, e14], rfl, hb2⟩
    · clear hi hf
      refine wpOp_step rfl (fun K hK => ?_)
      go_simp
      exact hK _ _ ⟨.pointer (some ⟨g, 0, none⟩), by simp [put, uvDst], rfl, Below.refl _ _⟩
    · have e16 : z 19 = .pointer (some ⟨g, 0, none⟩) := hf 16 (ready_dep hi rfl 16 (by kernel_rfl))
      clear hi hf
      refine wpOp_step rfl (fun K hK => ?_)
      go_simp
      exact hK _ _ ⟨.pointer (some ⟨g, 4, none⟩), by simp [put, uvDst, e16], rfl, Below.refl _ _⟩
    · have e17 : z 20 = .pointer (some ⟨g, 4, none⟩) := hf 17 (ready_dep hi rfl 17 (by kernel_rfl))
      have qc4 : wr.cell? ⟨g, 4, none⟩ = some (.slice (some ⟨fb, fo, none⟩) F.length cap) := (hR.cell (show g < W.heap.size from hgW)).trans c4
      clear hi hf
      refine wpOp_step rfl (fun K hK => ?_)
      go_simp
      exact hK _ _ ⟨.slice (some ⟨fb, fo, none⟩) F.length cap, by simp [put, uvDst, e17], rfl, Below.refl _ _⟩
    · have e18 : z 21 = .slice (some ⟨fb, fo, none⟩) F.length cap := hf 18 (ready_dep hi rfl 18 (by kernel_rfl))
      clear hi hf
      refine wpOp_step rfl (fun K hK => ?_)
      go_simp
      refine (hJ.out wr hR).mono ?_
      rintro e w2 ⟨rfl, hb2⟩
      go_simp
      exact hK _ _ ⟨.string tj, by simp [put, uvDst, e18], rfl, hb2⟩
    · clear hi hf
      refine wpOp_step rfl (fun K hK => ?_)
      go_simp
      exact hK _ _ ⟨.pointer (some ⟨g, 7, none⟩), by simp [put, uvDst], rfl, Below.refl _ _⟩
    · have e20 : z 23 = .pointer (some ⟨g, 7, none⟩) := hf 20 (ready_dep hi rfl 20 (by kernel_rfl))
      have qc7 : wr.cell? ⟨g, 7, none⟩ = some (.int .i64 x) := (hR.cell (show g < W.heap.size from hgW)).trans c7
      have qc8 : wr.cell? ⟨g, 8, none⟩ = some (.int .i64 y) := (hR.cell (show g < W.heap.size from hgW)).trans c8
      clear hi hf
      refine wpOp_step rfl (fun K hK => ?_)
      go_simp
      exact hK _ _ ⟨.agg #[.int .i64 x, .int .i64 y], by simp [put, uvDst, e20], rfl, Below.refl _ _⟩
    · have e21 : z 24 = .agg #[.int .i64 x, .int .i64 y] := hf 21 (ready_dep hi rfl 21 (by kernel_rfl))
      clear hi hf
      refine wpOp_step rfl (fun K hK => ?_)
      go_simp
      refine (hS.out wr hR).mono ?_
      rintro e w2 ⟨rfl, hb2⟩
      go_simp
      exact hK _ _ ⟨.string ts, by simp [put, uvDst, e21], rfl, hb2⟩
    · have e3 : z 6 = .string d := hf 3 (ready_dep hi rfl 3 (by kernel_rfl))
      have e7 : z 10 = .string s := hf 7 (ready_dep hi rfl 7 (by kernel_rfl))
      have e11 : z 14 = .string th := hf 11 (ready_dep hi rfl 11 (by kernel_rfl))
      have e15 : z 18 = .string tb := hf 15 (ready_dep hi rfl 15 (by kernel_rfl))
      have e19 : z 22 = .string tj := hf 19 (ready_dep hi rfl 19 (by kernel_rfl))
      have e22 : z 25 = .string ts := hf 22 (ready_dep hi rfl 22 (by kernel_rfl))
      clear hi hf
      refine wpOp_step rfl (fun K hK => ?_)
      go_simp
      exact hK _ _ ⟨.slice (some ⟨wr.heap.size, 0, none⟩) 13 13, by simp [put, uvDst, e3, e7, e11, e15, e19, e22], ⟨_, rfl, hp_al wr _⟩, (Below.refl _ _).alloc (Nat.le_refl _) _⟩
    · have f23 : ∃ bk, z 26 = .slice (some ⟨bk, 0, none⟩) 13 13 ∧ wr.heap[bk]? = some (uvRow d s th tb tj ts) := hf 23 (ready_dep hi rfl 23 (by kernel_rfl))
      obtain ⟨bk, e23, hbk⟩ := f23
      clear hi hf
      refine wpOp_step rfl (fun K hK => ?_)
      go_simp
      refine (hWr.out wr bk hbk).mono ?_
      rintro e w2 ⟨rfl, hb2⟩
      go_simp
      exact hK _ _ ⟨.string R, by simp [put, uvDst, e23], rfl, hb2⟩
    · have e24 : z 27 = .string R := hf 24 (ready_dep hi rfl 24 (by kernel_rfl))
      clear hi hf
      refine wpOp_step rfl (fun K hK => ?_)
      go_simp
      exact hK _ _ ⟨.string R, by simp [put, uvDst, e24], rfl, Below.refl _ _⟩
end Go.Proofs.YtgabjiamabbheaaGreatDoor
namespace Go.Proofs.YtgabjiamabbheaaGreatDoor
open Go.RowKit Go.Lib
set_option maxRecDepth 10000 in
set_option maxHeartbeats 1000000 in
theorem implValueT (d s : ByteArray) (A B h b : Int) (fb fo : Nat) (F : List ByteArray) (cap x y p q : Nat) (w : World) (hd : d.size ≤ 300) (hs : s.size ≤ 300) (hF : ∀ (j : Nat) t, F[j]? = some t → w.cell? ⟨fb, fo + j, none⟩ = some (.string t)) (hfb : fb < w.heap.size) (hlen : F.length ≤ 30) (hcap : F.length ≤ cap) (hsz : ∀ t ∈ F, t.size ≤ 70) (hh : h = 0 ∨ h = 1) (hb : b = 0 ∨ b = 1) (hx : x < 2147483647) (hy : y < 2147483647) (hp : p < 2147483647) (hq : q < 2147483647) (hP : PTab w) :
    Calls Tryz.prog 28 #[sigV d s A B (.slice (some ⟨fb, fo, none⟩) F.length cap) h b x y p q] w fun e w' => e = .returned (.string (frontT d s F h b x y ++ sumT p q)) ∧ Below w.heap.size w w' := by
  obtain ⟨W, hW⟩ : ∃ W, W = w.alloc (.cells #[.string d, .string s, .int .i64 A, .int .i64 B, .slice (some ⟨fb, fo, none⟩) F.length cap, .int .i64 h, .int .i64 b, .int .i64 x, .int .i64 y, .int .i64 p, .int .i64 q] 55) := ⟨_, rfl⟩
  have hbW : Below w.heap.size w W := by rw [hW]; exact (Below.refl _ _).alloc (Nat.le_refl _) _
  have hPW : PTab W := ptab_on hP (ptab_lt hP) hbW
  have hFW : ∀ (j : Nat) t, F[j]? = some t → W.cell? ⟨fb, fo + j, none⟩ = some (.string t) := fun j t ht => (hbW.cell (show fb < w.heap.size from hfb)).trans (hF j t ht)
  have hfW : fb < W.heap.size := Nat.lt_of_lt_of_le hfb hbW.size
  have c0 : W.cell? ⟨w.heap.size, 0, none⟩ = some (.string d) := by rw [hW]; simp
  have c1 : W.cell? ⟨w.heap.size, 1, none⟩ = some (.string s) := by rw [hW]; simp
  have c2 : W.cell? ⟨w.heap.size, 2, none⟩ = some (.int .i64 A) := by rw [hW]; simp
  have c3 : W.cell? ⟨w.heap.size, 3, none⟩ = some (.int .i64 B) := by rw [hW]; simp
  have c4 : W.cell? ⟨w.heap.size, 4, none⟩ = some (.slice (some ⟨fb, fo, none⟩) F.length cap) := by rw [hW]; simp
  have c5 : W.cell? ⟨w.heap.size, 5, none⟩ = some (.int .i64 h) := by rw [hW]; simp
  have c6 : W.cell? ⟨w.heap.size, 6, none⟩ = some (.int .i64 b) := by rw [hW]; simp
  have c7 : W.cell? ⟨w.heap.size, 7, none⟩ = some (.int .i64 x) := by rw [hW]; simp
  have c8 : W.cell? ⟨w.heap.size, 8, none⟩ = some (.int .i64 y) := by rw [hW]; simp
  have c9 : W.cell? ⟨w.heap.size, 9, none⟩ = some (.int .i64 p) := by rw [hW]; simp
  have c10 : W.cell? ⟨w.heap.size, 10, none⟩ = some (.int .i64 q) := by rw [hW]; simp
  have k0 := cell_regrown c0
  have k1 := cell_regrown c1
  have k2 := cell_regrown c2
  have k3 := cell_regrown c3
  have k4 := cell_regrown c4
  have k5 := cell_regrown c5
  have k6 := cell_regrown c6
  have k7 := cell_regrown c7
  have k8 := cell_regrown c8
  have k9 := cell_regrown c9
  have k10 := cell_regrown c10
  have cF : ∀ dr os, Calls Tryz.prog 25 #[sigV d s A B (.slice (some ⟨fb, fo, none⟩) F.length cap) h b x y p q] (Go.Sort.grow (redrawn W dr) os) fun e w'' => e = .returned (.string (frontT d s F h b x y)) ∧ ∃ p : Regrown, w'' = Go.Sort.grow (redrawn W p.d) p.os := fun dr os => Calls.regrown_of (implFront d s A B h b fb fo F cap x y p q _ hd hs (fun j t ht => cell_regrown (hFW j t ht) dr os) (Nat.lt_of_lt_of_le hfW (below_regrown W dr os).size) hlen hcap hsz hh hb hx hy (ptab_on hPW (ptab_lt hPW) (below_regrown W dr os)))
  have cS : ∀ dr os, Calls Tryz.prog 63 #[sumV p q] (Go.Sort.grow (redrawn W dr) os) fun e w'' => e = .returned (.string (sumT p q)) ∧ ∃ p : Regrown, w'' = Go.Sort.grow (redrawn W p.d) p.os := fun dr os => Calls.regrown_of (implSumT p q hp hq _ (ptab_on hPW (ptab_lt hPW) (below_regrown W dr os)))
  have CF := (show Hid _ from cF)
  have CS := (show Hid _ from cS)
  have zs := sumT_size p q hp hq
  have zf : (frontT d s F h b x y).size ≤ 100000 := by
    rw [← cat_front, catT_size]
    have zh : (formT h).size ≤ 7 := by unfold formT; split <;> decide
    have zb : (formT b).size ≤ 7 := by unfold formT; split <;> decide
    have zs := sumT_size x y hx hy
    have hjl := jc_len F hsz
    have zj : (⟨(jc F).toArray⟩ : ByteArray).size ≤ 2130 := by
      show (jc F).toArray.size ≤ _
      rw [List.size_toArray]
      omega
    have l3 : (⟨#[32, 100, 61]⟩ : ByteArray).size = 3 := rfl
    have l4 : (⟨#[59, 32, 115, 61]⟩ : ByteArray).size = 4 := rfl
    have l5 : (⟨#[59, 32, 99, 61]⟩ : ByteArray).size = 4 := rfl
    have l6 : (⟨#[47]⟩ : ByteArray).size = 1 := rfl
    have l7 : (⟨#[59, 32, 104, 61]⟩ : ByteArray).size = 4 := rfl
    have l8 : (⟨#[59, 32, 98, 61]⟩ : ByteArray).size = 4 := rfl
    have l9 : (⟨#[59, 32, 120, 61]⟩ : ByteArray).size = 4 := rfl
    simp only [allSz, List.map_cons, List.map_nil, List.sum_cons, List.sum_nil, l3, l4, l5, l6, l7, l8, l9]
    omega
  have n0 : ¬ 9223372036854775807 < (frontT d s F h b x y).size + (sumT p q).size := by omega
  generalize frontT d s F h b x y = R at *
  generalize sumT p q = ts at *
  clear cF cS hF hFW hPW hP hsz hh hb hx hy hp hq c0 c1 c2 c3 c4 c5 c6 c7 c8 c9 c10
  go_enter Tryz.func28, Tryz.ntmps28
  go_wp2
  rw [← hW]
  clear hW
  refine wp_region_quiet_below (by kernel_rfl) (by kernel_rfl) ?_
  repeat (quiet_step (fail))
  quiet_step (exact CF.out _ _)
  repeat (quiet_step (fail))
  quiet_step (exact CS.out _ _)
  repeat (quiet_step (fail))
  refine wpQuiet_nil ?_
  intro _ hw'
  obtain ⟨⟨dq, osq⟩, hw''⟩ := hw'
  subst hw''
  have hbq := hbW.trans ((below_regrown W dq osq).mono hbW.size)
  go_wp2
  go_ret
  exact ⟨rfl, hbq⟩
end Go.Proofs.YtgabjiamabbheaaGreatDoor
