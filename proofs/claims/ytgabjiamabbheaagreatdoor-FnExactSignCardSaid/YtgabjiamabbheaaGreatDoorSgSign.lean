
/- Sign, plainly. -/
import Derived.Test.YtgabjiamabbheaaGreatDoorSgRead
import Derived.Test.YtgabjiamabbheaaGreatDoorSgPlain3
import Derived.Test.YtgabjiamabbheaaGreatDoorSgImpl1
import Derived.Test.YtgabjiamabbheaaGreatDoorSumSpec
import Derived.Test.YtgabjiamabbheaaGreatDoorAdded
namespace Go.Proofs.YtgabjiamabbheaaGreatDoor
open Go.RowKit Go.Lib Go.Maps
set_option maxRecDepth 20000 in
theorem fsum_toBA (F : List Fl) : fsum (toBA F) = flsum F := by
  unfold fsum toBA flsum fsz
  rw [List.map_map]
  congr 1
set_option maxRecDepth 20000 in
theorem fl_size (F : List Fl) (n : Nat) (h : flsum F ≤ n) : ∀ f ∈ F, f.1.length + 3 ≤ n ∧ f.2.length + 3 ≤ n := by
  intro f hf
  have : f.1.length + f.2.length + 3 ≤ flsum F := by
    unfold flsum
    clear h
    induction F with
    | nil => cases hf
    | cons a r ih =>
      rw [List.map_cons, List.sum_cons]
      rcases List.mem_cons.1 hf with rfl | hf
      · omega
      · have := ih hf
        omega
  omega
set_option maxRecDepth 20000 in
theorem sm_lt (A x : Nat) : ∀ (l : List UInt8), x < 2147483647 → Ps.sm A x l < 2147483647 := by
  intro l hx
  exact Ps.sm_lt A l x hx
/-- The text that the head's sum is of. -/
def sgText (M : List ByteArray) (h : Int) (L : List Fd) (v : ByteArray) : ByteArray := ⟨(tkL h M L).toArray⟩ ++ ownB v h
def sgBody (msg : ByteArray) (b : Int) : ByteArray := canonAny (msg.extract (RH msg).body msg.size) b
def sgFront (msg d s : ByteArray) (A B : Nat) (M : List ByteArray) (h b : Int) : ByteArray := frontT d s M h b (Ps.sm A 1 (sgBody msg b).data.toList) (Ps.sm B 1 (sgBody msg b).data.toList)
def sgHead (msg d s : ByteArray) (A B : Nat) (M : List ByteArray) (h b : Int) : ByteArray := sgText M h (toBA (RH msg).fields) (sgFront msg d s A B M h b)
def sgValue (msg d s : ByteArray) (A B : Nat) (M : List ByteArray) (h b : Int) : ByteArray := sgFront msg d s A B M h b ++ sumT (Ps.sm A 1 (sgHead msg d s A B M h b).data.toList) (Ps.sm B 1 (sgHead msg d s A B M h b).data.toList)
def plSign (msg d s : ByteArray) (A B : Int) (M : List ByteArray) (h b : Int) : ByteArray :=
  if signerOk d s A B M h b = true ∧ (RH msg).code = 0 ∧ ¬ (RH msg).fields.length = 200 then Pl.added ⟨(Pl.hd [] [(sgName, sgValue msg d s A.toNat B.toNat M h b)]).toArray⟩ msg else ⟨#[]⟩
end Go.Proofs.YtgabjiamabbheaaGreatDoor
