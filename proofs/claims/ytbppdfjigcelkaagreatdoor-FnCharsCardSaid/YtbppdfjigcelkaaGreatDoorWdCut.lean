
/- A header's text as characters: the program's small steps. -/

/- A header's text as characters, plain: what both sides read. -/

/- A text up to its first blank: the program's side. -/
import Derived.Test.YtbppdfjigcelkaaGreatDoorCsName
import Derived.Test.YtbppdfjigcelkaaGreatDoorNinePlain
import Derived.Maps.AppendAt
import Derived.Test.YtbppdfjigcelkaaGreatDoorWdWord
import Derived.Laws.RangeAny
import Derived.Lib.OthersKept
import Derived.Scope
namespace Go.Proofs.YtbppdfjigcelkaaGreatDoor
open Go.RowKit Go.Lib
set_option maxRecDepth 20000 in
set_option maxHeartbeats 1000000 in
theorem implCutGap (s : ByteArray) (w : World) (hs : s.size ≤ 1100000) :
    Calls Tryz.prog 30 #[.string s] w fun e w' => e = .returned (.tuple #[.string (s.extract 0 (Pw.gap s.data.toList)), .string (s.extract (Pw.gap s.data.toList) s.size)]) ∧ Below w.heap.size w w' := by
  have cT := mkHid (libTrimLeft s w)
  have hle : Pw.gap s.data.toList ≤ s.size := by have := Pw.gap_le s.data.toList; simpa using this
  generalize Pw.gap s.data.toList = g at *
  have hsz : (s.extract g s.size).size = s.size - g := by simp
  have hsub : (s.size : Int) - ((s.size - g : Nat) : Int) = (g : Int) := by omega
  go_enter Tryz.func30, Tryz.ntmps30
  go_wp2_with fail
  refine cT.out.mono ?_
  rintro e w1 ⟨rfl, hb⟩
  have Hb := mkHid hb
  clear hb cT
  go_wp2
  go_ret2
  exact ⟨rfl, Hb.out⟩
namespace Pw
def pt (c : UInt8) : Int := if c.toNat < 128 then (c.toNat : Int) else 65533
def pts (l : List UInt8) : List Int := l.map pt
end Pw
set_option maxRecDepth 20000 in
/-- An append of one number: where its row lies. -/
theorem wp_appNa {w : World} {ops : Array Oper} {rest : List Oper} {o : Oper} {a : Act} {Q : Exit → Act → World → Prop} (hgd : o.guard = none) (s x : Operand)
    (ho : o.op = .call { callee := .builtin .append, args := #[s, x], argTypes := #[23, 23] })
    (B : Nat) (v : Value) (C : List Int) (hs : a.eval s = v) (hown : OwnN B v C w) (u : Int)
    (c : Nat) (hx : a.eval x = .slice (some ⟨w.heap.size, 0, none⟩) 1 c) (hlen : C.length ≤ 1000000) (hB : B ≤ w.heap.size)
    (h : ∀ v' w', OwnN B v' (C ++ [u]) w' → (w.alloc (.cells #[.int .i64 u] 2)).grownBy w' v.ownBlock → (v'.ownBlock = v.ownBlock ∨ v'.ownBlock = some (w.heap.size + 1)) → wpList Tryz.prog ops Q rest (a.put o.dst v') w') : wpList Tryz.prog ops Q (o :: rest) a (w.alloc (.cells #[.int .i64 u] 2)) := by
  obtain ⟨i0, hi0, hz0, hz1, hz2⟩ := info_parts Tryz.info2
  unfold OwnN at hown
  refine wpList_append_own_at _ hgd s x 23 ho B 2 i0 (.int .i64 0) 1 8 Tryz.underlying23 hi0 hz0 hz1 hz2 rfl (by decide) v C.length (numCells C) hs (World.ownsRow.alloc hown _) ⟨w.heap.size, 0, none⟩ 1 c [.int .i64 u] hx
    rfl ?_ ?_ (by unfold maxLen; omega) (by omega) (by simp; omega) ?_
  · intro j y hj
    rw [add_off]
    match j, hj with
    | 0, hj => simp at hj; subst hj; simp
  · intro y hy
    simp at hy
    subst hy
    rfl
  · intro v' w' h1 h2 _ h4
    refine h v' w' ?_ h2 (by rw [World.size_alloc] at h4; exact h4)
    unfold OwnN numCells
    rw [List.map_append, List.length_append]
    exact h1
/-- Of the blocks that were there at most one has turned; a row lies there, or is new. -/
def Pw.OneRow (w : World) (r : Option Nat) (u : Value) (wr : World) : Prop := w.grownBy wr r ∧ (u.ownBlock = r ∨ ∀ q, u.ownBlock = some q → w.heap.size ≤ q)
set_option maxRecDepth 20000 in
theorem oneRow_step {w wr w5 : World} {r : Option Nat} {u v5 : Value} {x : Int} (h : Pw.OneRow w r u wr) (hg : (wr.alloc (.cells #[.int .i64 x] 2)).grownBy w5 u.ownBlock) (hv : v5.ownBlock = u.ownBlock ∨ v5.ownBlock = some (wr.heap.size + 1)) : Pw.OneRow w r v5 w5 := by
  obtain ⟨h1, h2⟩ := h
  have hs := h1.size
  refine ⟨⟨hg.os.trans h1.os, hg.tape.trans h1.tape, hg.output.trans h1.output, Nat.le_trans (Nat.le_trans hs (by rw [World.size_alloc]; omega)) hg.size, fun i hi hr => ?_⟩, ?_⟩
  · refine ((hg.block i (by rw [World.size_alloc]; omega) ?_).trans (heap_alloc_old _ _ _ (by omega))).trans (h1.block i hi hr)
    intro e
    rcases h2 with h2 | h2
    · exact hr (e.trans h2)
    · have := h2 i e.symm
      omega
  · rcases hv with hv | hv
    · rw [hv]; exact h2
    · right
      intro q hq
      rw [hv] at hq
      cases hq
      omega
set_option maxRecDepth 20000 in
set_option maxHeartbeats 2000000 in
theorem implAppendBytes (B : Nat) (v : Value) (C : List Int) (s : ByteArray) (w : World) (hO : OwnN B v C w) (hB : B ≤ w.heap.size) (hl : C.length + s.size ≤ 1000000) :
    Calls Tryz.prog 33 #[v, .string s] w fun e w' => ∃ v', e = .returned v' ∧ OwnN B v' (C ++ Pw.pts s.data.toList) w' ∧ Below B w w' ∧ w.grownBy w' v.ownBlock := by
  have HO0 := mkHid hO
  have HR0 : Hid (Pw.OneRow w v.ownBlock v w) := mkHid ⟨⟨rfl, rfl, rfl, Nat.le_refl _, fun _ _ _ => rfl⟩, .inl rfl⟩
  obtain ⟨r0, hr0⟩ : ∃ r0, v.ownBlock = r0 := ⟨_, rfl⟩
  rw [hr0] at HR0 ⊢
  clear hr0
  obtain ⟨o0, c0, rfl⟩ := hO.shape
  have hll : s.data.toList.length = s.size := by simp
  clear hO
  go_enter Tryz.func33, Tryz.ntmps33
  go_wp2
  go_loopw [0, 8] (fun u iv wr => ∃ k : Nat, iv = .int .i64 k ∧ k ≤ s.size ∧ Hid (OwnN B u (C ++ Pw.pts (s.data.toList.take k)) wr) ∧ Hid (Below B w wr) ∧ Hid (Pw.OneRow w r0 u wr)) (fun _ iv _ => s.size - (Lib.intOf iv).toNat)
  case atStart => exact ⟨0, rfl, Nat.zero_le _, mkHid (by simpa [Pw.pts] using HO0.out), mkHid (Below.refl _ _), HR0⟩
  case round =>
    obtain ⟨k, rfl, hk, HO, Hb, HRw⟩ := hrel
    clear HO0 HR0
    obtain ⟨ob, cb, rfl⟩ := HO.out.shape
    have zr : B ≤ wr.heap.size := Nat.le_trans hB Hb.out.size
    have hlen : (C ++ Pw.pts (s.data.toList.take k)).length ≤ 1000000 := by simp [Pw.pts]; omega
    by_cases hlt : k < s.size
    · have Hsn : Hid (C ++ Pw.pts (s.data.toList.take (k + 1)) = (C ++ Pw.pts (s.data.toList.take k)) ++ [Pw.pt s[k]]) := mkHid (by
        rw [List.take_succ_eq_append_getElem (show k < s.data.toList.length by omega)]
        simp [Pw.pts, ByteArray.getElem_eq_getElem_data])
      have h8 : s[k].toNat < 256 := UInt8.toNat_lt _
      generalize C ++ Pw.pts (s.data.toList.take k) = P at *
      unfold Pw.pt at Hsn
      generalize hsk : s[k] = c at *
      by_cases hc : c.toNat < 128
      · rw [if_pos hc] at Hsn
        go_wp2_with (at_builtin; refine wp_appNa rfl _ _ rfl B (.slice ob P.length cb) P rfl HO.out (c.toNat : Int) _ rfl hlen zr ?_; intro v5 w5 hown5 hg5 hv5; refine Hid.out ?_)
        refine mkHid ?_
        have Hb5 := mkHid (Hb.out.trans (show Below B wr w5 from
          ⟨hg5.os, hg5.tape, hg5.output, Nat.le_trans (by simp) hg5.size, fun j hj => (hg5.block j (by simp; omega) (fun e => by have := (World.ownsRow.lt HO.out j e.symm).1; omega)).trans (heap_alloc_old _ _ _ (by omega))⟩))
        have HR5 := mkHid (oneRow_step HRw.out hg5 hv5)
        clear hg5 hv5
        go_wp2
        go_roundw
        case rel => exact ⟨k + 1, by go_num, by omega, mkHid (by rw [Hsn.out]; exact hown5), Hb5, HR5⟩
        case measure => simp [Lib.intOf]; omega
      · rw [if_neg hc] at Hsn
        go_wp2_with (at_builtin; refine wp_appNa rfl _ _ rfl B (.slice ob P.length cb) P rfl HO.out 65533 _ rfl hlen zr ?_; intro v5 w5 hown5 hg5 hv5; refine Hid.out ?_)
        refine mkHid ?_
        have Hb5 := mkHid (Hb.out.trans (show Below B wr w5 from
          ⟨hg5.os, hg5.tape, hg5.output, Nat.le_trans (by simp) hg5.size, fun j hj => (hg5.block j (by simp; omega) (fun e => by have := (World.ownsRow.lt HO.out j e.symm).1; omega)).trans (heap_alloc_old _ _ _ (by omega))⟩))
        have HR5 := mkHid (oneRow_step HRw.out hg5 hv5)
        clear hg5 hv5
        go_wp2
        go_roundw
        case rel => exact ⟨k + 1, by go_num, by omega, mkHid (by rw [Hsn.out]; exact hown5), Hb5, HR5⟩
        case measure => simp [Lib.intOf]; omega
    · have e : s.data.toList.take k = s.data.toList := List.take_of_length_le (by omega)
      rw [e] at HO ⊢
      go_wp2
      go_ret
      exact ⟨_, rfl, HO.out, Hb.out, HRw.out.1⟩
end Go.Proofs.YtbppdfjigcelkaaGreatDoor
namespace Go.Proofs.YtbppdfjigcelkaaGreatDoor
open Go.Lib
namespace Pw
/-- How many bytes that are no blanks stand ahead. -/
def tx : List UInt8 → Nat
  | [] => 0
  | c :: r => if bl c then 0 else tx r + 1
set_option maxRecDepth 20000 in
theorem tx_le : ∀ l : List UInt8, tx l ≤ l.length
  | [] => Nat.le_refl _
  | c :: r => by
    unfold tx
    split
    · exact Nat.zero_le _
    · exact Nat.succ_le_succ (tx_le r)
set_option maxRecDepth 20000 in
theorem gap_tx : ∀ l : List UInt8, l ≠ [] → 1 ≤ gap l + tx (l.drop (gap l))
  | [], h => absurd rfl h
  | c :: r, _ => by
    unfold gap
    by_cases hb : bl c = true
    · rw [if_pos hb]; omega
    · rw [if_neg hb, List.drop_zero]
      unfold tx
      rw [if_neg hb]
      omega
def wd (l : List UInt8) : List UInt8 := (l.drop (gap l)).take (tx (l.drop (gap l)))
def rs (l : List UInt8) : List UInt8 := (l.drop (gap l)).drop (tx (l.drop (gap l)))
set_option maxRecDepth 20000 in
theorem rs_len (l : List UInt8) : (rs l).length + (l.take (gap l)).length + (wd l).length = l.length := by
  have h1 := gap_le l
  have h2 := tx_le (l.drop (gap l))
  unfold rs wd
  simp only [List.length_drop, List.length_take] at h2 ⊢
  omega
set_option maxRecDepth 20000 in
theorem rs_lt (l : List UInt8) (h : l ≠ []) : (rs l).length < l.length := by
  have h1 := gap_tx l h
  have h2 := gap_le l
  have h3 := tx_le (l.drop (gap l))
  unfold rs
  simp only [List.length_drop] at h3 ⊢
  omega
/-- The points of a text, by its length; the truth: a word stands ahead. -/
def rdF : Nat → Bool → List UInt8 → List Int
  | 0, _, _ => []
  | n + 1, b, l => if l = [] then [] else
    match word (wd l) with
    | some ps => (if b then [] else pts (l.take (gap l))) ++ (ps ++ rdF n true (rs l))
    | none => pts (l.take (gap l)) ++ (pts (wd l) ++ rdF n false (rs l))
set_option maxRecDepth 20000 in
theorem rdF_more : ∀ (n m : Nat) (b : Bool) (l : List UInt8), l.length ≤ n → l.length ≤ m → rdF n b l = rdF m b l
  | 0, 0, _, _, _, _ => rfl
  | 0, m + 1, b, l, h, _ => by
    have : l = [] := List.length_eq_zero_iff.1 (by omega)
    subst this
    simp [rdF]
  | n + 1, 0, b, l, _, h => by
    have : l = [] := List.length_eq_zero_iff.1 (by omega)
    subst this
    simp [rdF]
  | n + 1, m + 1, b, l, h1, h2 => by
    by_cases hl : l = []
    · subst hl
      simp [rdF]
    · have := rs_lt l hl
      rw [rdF, rdF, if_neg hl, if_neg hl, rdF_more n m true (rs l) (by omega) (by omega), rdF_more n m false (rs l) (by omega) (by omega)]
def rd (b : Bool) (l : List UInt8) : List Int := rdF l.length b l
set_option maxRecDepth 20000 in
theorem rd_nil (b : Bool) : rd b [] = [] := rfl
set_option maxRecDepth 20000 in
theorem rd_word (b : Bool) (l : List UInt8) (ps : List Int) (hl : l ≠ []) (h : word (wd l) = some ps) : rd b l = (if b then [] else pts (l.take (gap l))) ++ (ps ++ rd true (rs l)) := by
  have h1 := rs_lt l hl
  unfold rd
  rw [rdF_more l.length (l.length - 1 + 1) b l (Nat.le_refl _) (by omega), rdF, if_neg hl, h, rdF_more (l.length - 1) (rs l).length true (rs l) (by omega) (Nat.le_refl _)]
set_option maxRecDepth 20000 in
theorem rd_text (b : Bool) (l : List UInt8) (hl : l ≠ []) (h : word (wd l) = none) : rd b l = pts (l.take (gap l)) ++ (pts (wd l) ++ rd false (rs l)) := by
  have h1 := rs_lt l hl
  unfold rd
  rw [rdF_more l.length (l.length - 1 + 1) b l (Nat.le_refl _) (by omega), rdF, if_neg hl, h, rdF_more (l.length - 1) (rs l).length false (rs l) (by omega) (Nat.le_refl _)]
set_option maxRecDepth 20000 in
theorem dec_len (set : Int) : ∀ (n : Nat) (out : List Int) (l : List UInt8) (ps : List Int), l.length ≤ n → Pd.dec set out l = some ps → ps.length ≤ out.length + l.length
  | n, out, [], ps, _, h => by
    rw [Pd.dec_nil] at h
    cases h
    simp
  | 0, out, a :: r, ps, hn, h => by simp at hn
  | n + 1, out, a :: r, ps, hn, h => by
    rw [Pd.dec] at h
    split at h
    · cases h
    · rename_i p k hk
      have := dec_len set n (out ++ [p]) (r.drop (k - 1)) ps (by simp at hn ⊢; omega) h
      simp at this ⊢
      omega
set_option maxRecDepth 20000 in
theorem quad_len (b : Bool) (x y z u : UInt8) (p : List UInt8) (h : Pu.quad b x y z u = some p) : p.length ≤ 3 := by
  unfold Pu.quad at h
  split at h
  · cases h; simp
  split at h
  · cases h; simp
  split at h
  · cases h; simp
  · cases h
set_option maxRecDepth 20000 in
theorem quads_len : ∀ (l p : List UInt8), Pu.quads l = some p → p.length ≤ l.length
  | [], p, h => by rw [Pu.quads] at h; cases h; simp
  | [_], p, h => by rw [Pu.quads] at h <;> first | (cases h; done) | simp
  | [_, _], p, h => by rw [Pu.quads] at h <;> first | (cases h; done) | simp
  | [_, _, _], p, h => by rw [Pu.quads] at h <;> first | (cases h; done) | simp
  | a :: b :: c :: e :: r, p, h => by
    rw [Pu.quads] at h
    cases hq : Pu.quad r.isEmpty a b c e with
    | none => rw [hq] at h; cases h
    | some x =>
      rw [hq, Option.bind_some] at h
      cases hr : Pu.quads r with
      | none => rw [hr] at h; cases h
      | some y =>
        rw [hr, Option.map_some] at h
        cases h
        have h1 := quad_len _ _ _ _ _ _ hq
        have h2 := quads_len r y hr
        simp only [List.length_append, List.length_cons]
        omega
set_option maxRecDepth 20000 in
theorem un64_len (l p : List UInt8) (h : Pu.un64 l = some p) : p.length ≤ l.length := by
  unfold Pu.un64 at h
  split at h
  · have h1 := quads_len _ _ h
    have h2 := Pu.strip_len l l.length
    rw [List.take_length] at h2
    omega
  · cases h
set_option maxRecDepth 20000 in
theorem wq_len : ∀ (n : Nat) (out l p : List UInt8), l.length ≤ n → wq out l = some p → p.length ≤ out.length + l.length
  | n, out, [], p, _, h => by
    rw [wq] at h
    cases h
    simp
  | 0, out, a :: r, p, hn, h => by simp at hn
  | n + 1, out, c :: r, p, hn, h => by
    have hr : r.length ≤ n := by simp at hn; omega
    rw [wq] at h
    split at h
    · have := wq_len n _ r p hr h
      simp at this ⊢
      omega
    · split at h
      · split at h
        · have := wq_len n _ (r.drop 2) p (by simp; omega) h
          simp at this ⊢
          omega
        · cases h
      · have := wq_len n _ r p hr h
        simp at this ⊢
        omega
set_option maxRecDepth 20000 in
theorem data_len (l t p : List UInt8) (h : data l t = some p) : p.length ≤ t.length := by
  unfold data at h
  split at h
  · exact un64_len _ _ h
  split at h
  · have := wq_len t.length [] t p (Nat.le_refl _) h
    simpa using this
  · cases h
set_option maxRecDepth 20000 in
theorem three_len (a b c : List UInt8) (ps : List Int) (h : three a b c = some ps) : ps.length ≤ c.length := by
  unfold three at h
  cases hd : data b c with
  | none => rw [hd] at h; cases h
  | some d =>
    rw [hd, Option.bind_some] at h
    have h1 := data_len _ _ _ hd
    unfold decA at h
    split at h
    · cases h
    · have := dec_len _ d.length [] d ps (Nat.le_refl _) h
      simp at this
      omega
set_option maxRecDepth 20000 in
theorem word_len (l : List UInt8) (ps : List Int) (h : word l = some ps) : ps.length ≤ l.length := by
  unfold word at h
  split at h
  · rename_i hc
    have e := word_shape l hc.1 hc.2.1
    split at h
    · rename_i a b c he
      have h1 := three_len a b c ps h
      have h2 := Cu.cut_mem 63 (trimSuffix (trimPrefix l [61, 63]) [63, 61]) [] c (by rw [he]; simp)
      have h3 := congrArg List.length e
      simp at h2 h3
      omega
    · cases h
  · cases h
set_option maxRecDepth 20000 in
theorem tx_at : ∀ (l : List UInt8) (k : Nat), (∀ j (h : j < l.length), j < k → bl l[j] = false) → (k = l.length ∨ ∃ h : k < l.length, bl l[k] = true) → tx l = k
  | [], k, _, h => by
    rcases h with h | ⟨h, -⟩
    · simp at h; subst h; rfl
    · simp at h
  | c :: r, 0, _, h => by
    rcases h with h | ⟨h, hb⟩
    · simp at h
    · simp at hb
      unfold tx
      rw [if_pos hb]
  | c :: r, k + 1, h1, h => by
    have hc : bl c = false := h1 0 (by simp) (by omega)
    unfold tx
    rw [hc, if_neg (by decide)]
    congr 1
    refine tx_at r k (fun j hj hk => ?_) ?_
    · exact h1 (j + 1) (by simp; omega) (by omega)
    · rcases h with h | ⟨h, hb⟩
      · left; simp at h; omega
      · right; exact ⟨by simp at h; omega, by simpa using hb⟩
set_option maxRecDepth 20000 in
theorem gap_at : ∀ (l : List UInt8) (k : Nat), (∀ j (h : j < l.length), j < k → bl l[j] = true) → (k = l.length ∨ ∃ h : k < l.length, bl l[k] = false) → gap l = k
  | [], k, _, h => by
    rcases h with h | ⟨h, -⟩
    · simp at h; subst h; rfl
    · simp at h
  | c :: r, 0, _, h => by
    rcases h with h | ⟨h, hb⟩
    · simp at h
    · simp at hb
      unfold gap
      rw [hb, if_neg (by decide)]
  | c :: r, k + 1, h1, h => by
    have hc : bl c = true := h1 0 (by simp) (by omega)
    unfold gap
    rw [if_pos hc]
    congr 1
    refine gap_at r k (fun j hj hk => ?_) ?_
    · exact h1 (j + 1) (by simp; omega) (by omega)
    · rcases h with h | ⟨h, hb⟩
      · left; simp at h; omega
      · right; exact ⟨by simp at h; omega, by simpa using hb⟩
set_option maxRecDepth 20000 in
/-- Where the first blank is, by the library's words. -/
theorem index_tx (l : List UInt8) : indexAny l [32, 9] = if tx l = l.length then -1 else (tx l : Int) := by
  induction l with
  | nil => rfl
  | cons c r ih =>
    have hb : ([32, 9] : List UInt8).contains c = bl c := by
      by_cases h1 : c = 32 <;> by_cases h2 : c = 9 <;> simp [bl, h1, h2]
    rw [indexAny, hb, ih]
    by_cases hc : bl c = true
    · have ht : tx (c :: r) = 0 := by
        unfold tx
        rw [if_pos hc]
      rw [if_pos hc, ht, if_neg (by rw [List.length_cons]; omega)]
      rfl
    · have ht : tx (c :: r) = tx r + 1 := by
        conv => lhs; unfold tx
        rw [if_neg hc]
      have hle := tx_le r
      rw [if_neg hc, ht]
      by_cases h : tx r = r.length
      · rw [if_pos h, if_pos (by rfl), if_pos (by rw [List.length_cons, h])]
      · rw [if_neg h, if_neg (by intro e; have := beq_iff_eq.1 e; omega), if_neg (by rw [List.length_cons]; omega)]
        omega
end Pw
end Go.Proofs.YtbppdfjigcelkaaGreatDoor
namespace Go.Proofs.YtbppdfjigcelkaaGreatDoor
open Go.RowKit Go.Lib
set_option maxRecDepth 20000 in
theorem get_bang (s : ByteArray) (i : Nat) (h : i < s.size) : s.get! i = s[i] := by
  show s.data[i]! = _
  rw [getElem!_pos s.data i h]
  rfl
set_option maxRecDepth 20000 in
/-- The bytes of a character that begins above 127 are all above 127. -/
theorem decode_all (s : ByteArray) (i : Nat) (h : i < s.size) (ha : 128 ≤ (s[i]'h).toNat) : ∀ j, j < (Utf8.decode s i).2 → ∃ h2 : i + j < s.size, 128 ≤ (s[i + j]'h2).toNat := by
  have hv := Pd.decodeN_val (s.size - i) (s.get! i).toNat (s.get! (i + 1)).toNat (s.get! (i + 2)).toNat (s.get! (i + 3)).toNat
  rw [← decode_at] at hv
  intro j hj
  rcases hv with ⟨h2, -⟩ | ⟨h2, hn, -, h1, -⟩ | ⟨h2, hn, -, h1, h3, -⟩ | ⟨h2, hn, -, h1, h3, h4, -⟩
  · have : j = 0 := by omega
    subst this
    exact ⟨h, ha⟩
  · rcases (show j = 0 ∨ j = 1 by omega) with rfl | rfl
    · exact ⟨h, ha⟩
    · refine ⟨by omega, ?_⟩
      rw [← get_bang]
      omega
  · rcases (show j = 0 ∨ j = 1 ∨ j = 2 by omega) with rfl | rfl | rfl
    · exact ⟨h, ha⟩
    · refine ⟨by omega, ?_⟩
      rw [← get_bang]
      omega
    · refine ⟨by omega, ?_⟩
      rw [← get_bang]
      omega
  · rcases (show j = 0 ∨ j = 1 ∨ j = 2 ∨ j = 3 by omega) with rfl | rfl | rfl | rfl
    · exact ⟨h, ha⟩
    · refine ⟨by omega, ?_⟩
      rw [← get_bang]
      omega
    · refine ⟨by omega, ?_⟩
      rw [← get_bang]
      omega
    · refine ⟨by omega, ?_⟩
      rw [← get_bang]
      omega
set_option maxRecDepth 20000 in
/-- A character above 127, as bytes. -/
theorem enc_high (r : Int) (h : 128 ≤ r) : 2 ≤ (Utf8.encode r).size ∧ (Utf8.encode r).size ≤ 4 ∧ ∀ h2 : 1 < (Utf8.encode r).size, (Utf8.encode r).size = 2 → 128 ≤ ((Utf8.encode r)[1]'h2).toNat := by
  have hc : ¬ (if Utf8.valid r then r.toNat else Utf8.runeError) < 128 := by
    split
    · omega
    · decide
  unfold Utf8.encode
  generalize (if Utf8.valid r then r.toNat else Utf8.runeError) = c at *
  dsimp only
  rw [if_neg hc]
  by_cases h1 : c < 0x800
  · rw [if_pos h1]
    refine ⟨Nat.le_refl _, (show (2 : Nat) ≤ 4 by decide), fun _ _ => ?_⟩
    show 128 ≤ (UInt8.ofNat (0x80 + c % 64)).toNat
    rw [UInt8.toNat_ofNat_of_lt' (by simp [UInt8.size]; omega)]
    omega
  · rw [if_neg h1]
    split
    · exact ⟨(show (2 : Nat) ≤ 3 by decide), (show (3 : Nat) ≤ 4 by decide), fun _ h2 => absurd (show (3 : Nat) = 2 from h2) (by decide)⟩
    · exact ⟨(show (2 : Nat) ≤ 4 by decide), (show (4 : Nat) ≤ 4 by decide), fun _ h2 => absurd (show (4 : Nat) = 2 from h2) (by decide)⟩
set_option maxRecDepth 40000 in
set_option maxHeartbeats 4000000 in
theorem libIndexRuneHigh (r : Int) (w : World) (h1 : 128 ≤ r) (h2 : r ≤ 2147483647) :
    Calls Tryz.prog 57 #[.string ⟨#[32, 9]⟩, .int .i32 r] w fun e w' => e = .returned (.int .i64 (-1)) ∧ Below w.heap.size w w' := by
  by_cases hE : r = 65533
  · subst hE
    clear h1 h2
    go_enter Tryz.func57, Tryz.ntmps57
    go_wp2
    go_loopw [5, 6] (fun _ _ wr => ∃ k : Nat, k ≤ 2 ∧ wr = w.iter ⟨#[32, 9]⟩ k) (fun _ _ wr => 2 - wr.iterPos w.heap.size)
    case atStart => exact ⟨0, by omega, rfl⟩
    case round =>
      obtain ⟨k, hk, rfl⟩ := hrel
      have hp : ∀ k, (w.iter (⟨#[32, 9]⟩ : ByteArray) k).iterPos w.heap.size = k := fun k => iterPos_of (World.iter_heap _ _ _)
      rcases (show k = 0 ∨ k = 1 ∨ k = 2 by omega) with rfl | rfl | rfl
      · have hnx := fun ty => run_next_ascii (P := Tryz.prog) w ⟨#[32, 9]⟩ 0 ty (by decide) (by decide)
        go_wp2
        go_roundw
        case rel => exact ⟨1, by omega, rfl⟩
        case measure => rw [hp, hp]; omega
      · have hnx := fun ty => run_next_ascii (P := Tryz.prog) w ⟨#[32, 9]⟩ 1 ty (by decide) (by decide)
        go_wp2
        go_roundw
        case rel => exact ⟨2, by omega, rfl⟩
        case measure => rw [hp, hp]; omega
      · have hnx := fun ty => run_next_end (P := Tryz.prog) w ⟨#[32, 9]⟩ 2 ty (by decide)
        go_wp2
        go_ret
        exact ⟨rfl, (Below.refl _ _).alloc (Nat.le_refl _) _⟩
  · have hV := Tryz.utf8_ValidRune r w
    have g1 : ¬ r < 128 := by omega
    have g2 : (0 : Int) ≤ r := by omega
    cases hv : Lib.validRune r
    · rw [hv] at hV
      go_enter Tryz.func57, Tryz.ntmps57
      go_wp2_with (go_at_call 71; go_must (refine hV.mono ?_; rintro e w2 ⟨rfl, rfl⟩))
      go_ret
      exact ⟨rfl, Below.refl _ _⟩
    · rw [hv] at hV
      obtain ⟨z1, z2, z3⟩ := enc_high r h1
      obtain ⟨rs, hrs⟩ : ∃ rs, Utf8.encode r = rs := ⟨_, rfl⟩
      rw [hrs] at z1 z2 z3
      go_enter Tryz.func57, Tryz.ntmps57
      go_wp2_with (go_at_call 71; go_must (refine hV.mono ?_; rintro e w2 ⟨rfl, rfl⟩))
      have hB := Tryz.strings_IndexByte (ByteArray.mk #[]) 0
      refine wp_scope_straight ?_
      go_wp2
      go_loopw [9] (fun v wr => v = .int .i64 ((rs.size : Int) - 1) ∧ wr = w2) (fun _ _ => 0)
      case atStart => exact ⟨rfl, rfl⟩
      case round =>
        obtain ⟨rfl, rfl⟩ := hrel
        by_cases h2s : rs.size = 2
        · have hlt1 : 1 < rs.size := by omega
          have z4 := z3 hlt1 h2s
          have z5 := UInt8.toNat_lt (rs[1]'hlt1)
          have hix : ((rs.size : Int) - 1) = 1 := by omega
          have hbi := fun W => Tryz.strings_IndexByte (ByteArray.mk #[]) ((rs[1]'hlt1).toNat : Int) W
          have hne : ((((⟨#[32, 9]⟩ : ByteArray)[1]'(by decide)).toNat : Int) != ((rs[1]'hlt1).toNat : Int)) = true := by
            have e9 : ((⟨#[32, 9]⟩ : ByteArray)[1]'(by decide)).toNat = 9 := rfl
            rw [bne_iff_ne, e9]
            omega
          have e0 : indexByte [] ((((rs[1]'hlt1).toNat : Int).toNat).toUInt8) = -1 := rfl
          have hgt : ¬ ((rs.size : Int) - 1) < 0 := by omega
          have hcN : (((rs.size : Int) - 1).toNat) = 1 := by omega
          clear hB hV
          go_wp2
          refine wp_scope_straight ?_
          go_wp2
          go_quiet (fail)
          have hbd : Below wr.heap.size wr (wr.drewN nq) := below_drewN (Below.refl _ _) _
          go_wp2
          obtain ⟨V, hV⟩ : ∃ V, wr.drewN nq = V := ⟨_, rfl⟩
          rw [hV] at hbd ⊢
          clear hV
          have hMe := mkHid (fun d os => Calls.regrown_of ((hbi (Go.Sort.grow (redrawn V d) os)).mono (fun e w' h => (⟨h.1.trans (by rw [e0]), by rw [h.2]; exact Below.refl _ _⟩ : e = .returned (.int .i64 (-1)) ∧ Below (Go.Sort.grow (redrawn V d) os).heap.size (Go.Sort.grow (redrawn V d) os) w'))))
          clear hbi
          have hw2 : IntKind.i64.wrap 2 = 2 := by decide
          have hex : (⟨#[32, 9]⟩ : ByteArray).extract 2 2 = ⟨#[]⟩ := rfl
          refine wp_region_quiet_below (by kernel_rfl) (by kernel_rfl) ?_
          iterate 7 (quiet_step (fail))
          quiet_step (first | exact hMe.out _ _ | exact ⟨trivial, hMe.out _ _⟩ | (trace_state; fail))
          repeat (quiet_step (fail))
          refine wpQuiet_nil ?_
          intro _ hw'
          obtain ⟨⟨dq, osq⟩, hw''⟩ := hw'
          subst hw''
          have hbq := hbd.trans ((below_regrown V dq osq).mono hbd.size)
          generalize Go.Sort.grow (redrawn V dq) osq = wq at *
          clear hMe
          go_wp2
          simp (config := { zetaDelta := true }) only [Exit.noGoto, Exit.inBlock, Exit.then]
          go_ret
          exact ⟨rfl, hbq⟩
        · have q1 : ¬ ((rs.size : Int) - 1) < 2 := by omega
          clear hB hV
          go_wp2
          go_ret
          exact ⟨rfl, Below.refl _ _⟩

set_option maxRecDepth 20000 in
theorem tx_cons (c : UInt8) (r : List UInt8) : Pw.tx (c :: r) = if Pw.bl c then 0 else Pw.tx r + 1 := by rw [Pw.tx]
set_option maxRecDepth 20000 in
theorem tx_skip (l : List UInt8) (k n : Nat) (hk : k + n ≤ l.length) (h : ∀ j (h : j < l.length), k ≤ j → j < k + n → Pw.bl l[j] = false) (hp : Pw.tx (l.drop k) + k = Pw.tx l) : Pw.tx (l.drop (k + n)) + (k + n) = Pw.tx l := by
  induction n generalizing k with
  | zero => exact hp
  | succ n ih =>
    have hlt : k < l.length := by omega
    have h1 : Pw.tx (l.drop (k + 1)) + (k + 1) = Pw.tx l := by
      rw [List.drop_eq_getElem_cons hlt, tx_cons] at hp
      rw [h k hlt (Nat.le_refl _) (by omega), if_neg (by decide)] at hp
      rw [← hp]
      omega
    have := ih (k + 1) (by omega) (fun j hj h1 h2 => h j hj (by omega) (by omega)) h1
    rw [show k + (n + 1) = k + 1 + n by omega]
    exact this
set_option maxRecDepth 20000 in
theorem tx_hit (l : List UInt8) (k : Nat) (hk : k < l.length) (h : Pw.bl l[k] = true) (hp : Pw.tx (l.drop k) + k = Pw.tx l) : Pw.tx l = k := by
  rw [List.drop_eq_getElem_cons hk, tx_cons, if_pos h] at hp
  omega
set_option maxRecDepth 20000 in
theorem tx_end (l : List UInt8) (k : Nat) (hk : l.length ≤ k) (hp : Pw.tx (l.drop k) + k = Pw.tx l) : Pw.tx l = l.length := by
  have h1 := Pw.tx_le l
  rw [List.drop_eq_nil_of_le hk, show Pw.tx [] = 0 from rfl] at hp
  omega
set_option maxRecDepth 20000 in
theorem bl_high (c : UInt8) (h : 128 ≤ c.toNat) : Pw.bl c = false := by
  unfold Pw.bl
  rw [Bool.or_eq_false_iff]
  constructor
  · rw [beq_eq_false_iff_ne]; rintro rfl; exact absurd h (by decide)
  · rw [beq_eq_false_iff_ne]; rintro rfl; exact absurd h (by decide)
set_option maxRecDepth 40000 in
set_option maxHeartbeats 4000000 in
theorem libIndexAnyShort (s : ByteArray) (w : World) (hs : s.size ≤ 8) :
    Calls Tryz.prog 44 #[.string s, .string ⟨#[32, 9]⟩] w fun e w' => e = .returned (.int .i64 (indexAny s.data.toList [32, 9])) ∧ Below w.heap.size w w' := by
  have hll : s.data.toList.length = s.size := by simp
  have h8 : ¬ (8 : Int) < (s.size : Int) := by omega
  have hA := mkHid (fun V => Tryz.strings_shouldUseASCIISet (s.size : Int) V)
  rw [Pw.index_tx, hll]
  obtain ⟨R, hR⟩ : ∃ R : Int, (if Pw.tx s.data.toList = s.size then (-1 : Int) else (Pw.tx s.data.toList : Int)) = R := ⟨_, rfl⟩
  rw [hR]
  have HR := mkHid hR
  clear hR
  go_enter Tryz.func44, Tryz.ntmps44
  go_wp2_with fail
  refine (hA.out _).mono ?_
  rintro e w2 ⟨rfl, rfl⟩
  clear hA
  go_wp2
  go_loopw [9, 10] (fun _ _ wr => ∃ k : Nat, k ≤ s.size ∧ Hid (wr.heap[w2.heap.size]? = some (.stringIter s k)) ∧ Hid (Pw.tx (s.data.toList.drop k) + k = Pw.tx s.data.toList) ∧ Hid (Below w2.heap.size w2 wr)) (fun _ _ wr => s.size - wr.iterPos w2.heap.size)
  case atStart => exact ⟨0, Nat.zero_le _, mkHid (World.iter_heap _ _ _), mkHid rfl, mkHid ((Below.refl _ _).alloc (Nat.le_refl _) _)⟩
  case round =>
    obtain ⟨k, hk, Hit, Ht, Hb⟩ := hrel
    have hip : wr.iterPos w2.heap.size = k := iterPos_of Hit.out
    by_cases hlt : k < s.size
    · have hpl : k < s.data.toList.length := by omega
      have hse : s.data.toList[k]'hpl = s[k] := by simp; rfl
      by_cases ha : (s[k]'hlt).toNat < 128
      · have hnext := fun ty => run_next_ascii_at (P := Tryz.prog) wr w2.heap.size s k ty Hit.out hlt ha
        obtain ⟨V, hV⟩ : ∃ V, V = wr.iterAt w2.heap.size s (k + 1) := ⟨_, rfl⟩
        have HitV : Hid (V.heap[w2.heap.size]? = some (.stringIter s (k + 1))) := mkHid (by rw [hV]; exact iterAt_heap _ _ _ _ _ Hit.out)
        have HbV : Hid (Below w2.heap.size w2 V) := mkHid (by rw [hV]; exact below_iterAt Hb.out (Nat.le_refl _) _ _)
        rw [← hV] at hnext
        have hipV : V.iterPos w2.heap.size = k + 1 := iterPos_of HitV.out
        clear hV
        have hI := mkHid (fun W => Tryz.strings_IndexRune_ascii ⟨#[32, 9]⟩ ((s[k]'hlt).toNat : Int) W (by omega) (by omega))
        cases hb : Pw.bl s[k] with
        | true =>
          have hx := tx_hit s.data.toList k hpl (by rw [hse]; exact hb) Ht.out
          have Hx := mkHid hx
          have hi : 0 ≤ indexByte [32, 9] ((((s[k]'hlt).toNat : Nat) : Int).toNat).toUInt8 := by
            have e : ((((s[k]'hlt).toNat : Nat) : Int).toNat).toUInt8 = s[k] := by simp
            rw [e]
            unfold Pw.bl at hb
            rw [Bool.or_eq_true, beq_iff_eq, beq_iff_eq] at hb
            rcases hb with h | h
            · rw [h]; decide
            · rw [h]; decide
          generalize indexByte [32, 9] ((((s[k]'hlt).toNat : Nat) : Int).toNat).toUInt8 = iv at *
          clear hx hb Ht
          go_wp2_with fail
          refine (hI.out _).mono ?_
          rintro e w3 ⟨rfl, rfl⟩
          clear hI
          go_wp2
          go_ret
          exact ⟨by rw [← HR.out, Hx.out, if_neg (by omega)]; rfl, HbV.out⟩
        | false =>
          have Hx := mkHid (tx_skip s.data.toList k 1 (by omega) (fun j hj h1 h2 => by
            obtain rfl : j = k := by omega
            rw [hse]
            exact hb) Ht.out)
          have hi : indexByte [32, 9] ((((s[k]'hlt).toNat : Nat) : Int).toNat).toUInt8 = -1 := by
            have e : ((((s[k]'hlt).toNat : Nat) : Int).toNat).toUInt8 = s[k] := by simp
            rw [e]
            unfold Pw.bl at hb
            rw [Bool.or_eq_false_iff, beq_eq_false_iff_ne, beq_eq_false_iff_ne] at hb
            simp [indexByte, Ne.symm hb.1, Ne.symm hb.2]
          rw [hi] at hI
          clear hi hb Ht
          go_wp2_with fail
          refine (hI.out _).mono ?_
          rintro e w3 ⟨rfl, rfl⟩
          clear hI
          go_wp2
          go_roundw
          case rel => exact ⟨k + 1, by omega, HitV, Hx, HbV⟩
          case measure => rw [hip, hipV]; omega
      · have h128 : 128 ≤ (s[k]'hlt).toNat := by omega
        have hd1 := decode_high s k hlt h128
        have hd2 := decode_le s k
        have hda := decode_all s k hlt h128
        have hnext := fun ty => run_next_any_at (P := Tryz.prog) wr w2.heap.size s k ty Hit.out hlt
        obtain ⟨d, hd⟩ : ∃ d, Utf8.decode s k = d := ⟨_, rfl⟩
        rw [hd] at hd1 hd2 hda hnext
        obtain ⟨r, n⟩ := d
        dsimp only at hd1 hd2 hda hnext
        have hkn : k + n ≤ s.size := by
          obtain ⟨h2, -⟩ := hda (n - 1) (by omega)
          omega
        have Hx := mkHid (tx_skip s.data.toList k n (by omega) (fun j hj h1 h2 => by
          obtain ⟨h3, h4⟩ := hda (j - k) (by omega)
          have e : s.data.toList[j]'hj = s[k + (j - k)]'h3 := by
            simp only [show k + (j - k) = j by omega]
            simp
            rfl
          rw [e]
          exact bl_high _ h4) Ht.out)
        obtain ⟨V, hV⟩ : ∃ V, V = wr.iterAt w2.heap.size s (k + n) := ⟨_, rfl⟩
        have HitV : Hid (V.heap[w2.heap.size]? = some (.stringIter s (k + n))) := mkHid (by rw [hV]; exact iterAt_heap _ _ _ _ _ Hit.out)
        have HbV : Hid (Below w2.heap.size w2 V) := mkHid (by rw [hV]; exact below_iterAt Hb.out (Nat.le_refl _) _ _)
        rw [← hV] at hnext
        have hltV : w2.heap.size < V.heap.size := heap_lt HitV.out
        have hI := mkHid (libIndexRuneHigh (r : Int) V (by omega) (by omega))
        clear hV hda hd Ht
        go_wp2_with fail
        refine hI.out.mono ?_
        rintro e w3 ⟨rfl, hb3⟩
        have HitW : Hid (w3.heap[w2.heap.size]? = some (.stringIter s (k + n))) := mkHid ((hb3.block _ hltV).trans HitV.out)
        have HbW : Hid (Below w2.heap.size w2 w3) := mkHid (HbV.out.trans (hb3.mono (by omega)))
        have hipW : w3.iterPos w2.heap.size = k + n := iterPos_of HitW.out
        clear hI hb3
        go_wp2
        go_roundw
        case rel => exact ⟨k + n, hkn, HitW, Hx, HbW⟩
        case measure => rw [hip, hipW]; omega
    · have hx := tx_end s.data.toList k (by omega) Ht.out
      have hn : ¬ k < s.size := hlt
      have hnext := fun ty => run_next_end_at (P := Tryz.prog) wr w2.heap.size s k ty Hit.out hn
      have e1 : Pw.tx s.data.toList = s.size := by omega
      have E1 := mkHid e1
      clear Ht hx e1
      go_wp2
      go_ret
      exact ⟨by rw [← HR.out, if_pos E1.out]; rfl, Hb.out⟩
set_option maxRecDepth 20000 in
theorem libIndexAny (s : ByteArray) (w : World) (hs : s.size ≤ 1100000) :
    Calls Tryz.prog 44 #[.string s, .string ⟨#[32, 9]⟩] w fun e w' => e = .returned (.int .i64 (indexAny s.data.toList [32, 9])) ∧ Below w.heap.size w w' := by
  by_cases h8 : s.size ≤ 8
  · exact libIndexAnyShort s w h8
  · have h116 : ∀ w, (zeroValue 90).run Tryz.prog w = .ok (.agg (Array.replicate 256 (.bool false))) w := fun w => by kernel_rfl
    refine (Tryz.strings_IndexAny_long h116 s ⟨#[32, 9]⟩ w (by show 2 ≤ 2; omega) (by omega) (by omega) (by show 2 < _; omega) (fun j b hj => ?_)).mono ?_
    · have : ∀ b ∈ ([32, 9] : List UInt8), b.toNat < 128 := by decide
      exact this b (List.mem_of_getElem? hj)
    · rintro e w' ⟨rfl, rfl⟩
      exact ⟨rfl, ((Below.refl _ _).alloc (Nat.le_refl _) _).alloc (by simp) _⟩
set_option maxRecDepth 20000 in
set_option maxHeartbeats 1000000 in
theorem implCutText (s : ByteArray) (w : World) (hs : s.size ≤ 1100000) :
    Calls Tryz.prog 31 #[.string s] w fun e w' => e = .returned (.tuple #[.string (s.extract 0 (Pw.tx s.data.toList)), .string (s.extract (Pw.tx s.data.toList) s.size)]) ∧ Below w.heap.size w w' := by
  have hll : s.data.toList.length = s.size := by simp
  have cI := mkHid (libIndexAny s w hs)
  have hle := Pw.tx_le s.data.toList
  have hix := Pw.index_tx s.data.toList
  rw [hll] at hle hix
  rw [hix] at cI
  clear hix
  generalize Pw.tx s.data.toList = t at *
  by_cases h : t = s.size
  · rw [if_pos h] at cI
    subst h
    have e1 : s.extract 0 s.size = s := by simp
    have e2 : s.extract s.size s.size = ⟨#[]⟩ := by
      apply ByteArray.ext
      simp
    rw [e1, e2]
    clear hle e1 e2
    go_enter Tryz.func31, Tryz.ntmps31
    go_wp2_with fail
    refine cI.out.mono ?_
    rintro e w1 ⟨rfl, hb⟩
    have Hb := mkHid hb
    clear hb cI
    go_wp2
    go_ret2
    exact ⟨rfl, Hb.out⟩
  · rw [if_neg h] at cI
    have h1 : ¬ (t : Int) < 0 := by omega
    have h2 : (t : Int) ≤ (s.size : Int) := by omega
    clear h
    go_enter Tryz.func31, Tryz.ntmps31
    go_wp2_with fail
    refine cI.out.mono ?_
    rintro e w1 ⟨rfl, hb⟩
    have Hb := mkHid hb
    clear hb cI
    go_wp2
    go_quiet (fail)
    have Hb2 := mkHid (below_drewN Hb.out nq)
    go_wp2
    go_ret2
    exact ⟨rfl, Hb2.out⟩
end Go.Proofs.YtbppdfjigcelkaaGreatDoor
