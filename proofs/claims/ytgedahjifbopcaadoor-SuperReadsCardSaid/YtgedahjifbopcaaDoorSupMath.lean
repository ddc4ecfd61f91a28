/- The words of a superblock: arithmetic. -/
import Derived.Test.YtgedahjifbopcaaDoorTurnMath
import Derived.Test.YtgedahjifbopcaaDoorPackMath
import Derived.Test.YtgedahjifbopcaaDoorGeoCk
namespace Go.Proofs.YtgedahjifbopcaaDoor
open SumMath WordMath
/-- The string parclose in a word. -/
def titleW : Nat := 7310309131468038512
def titleS : ByteArray := { data := #[112, 97, 114, 99, 108, 111, 115, 101] }
theorem pack_title : packL titleS.data.toList = [titleW] := by decide +kernel
theorem title_lt : titleW < 18446744073709551616 := by decide
/-- The word of fields. -/
def fieldsW (P I B h : Nat) : Nat := P + 65536 * I + 4294967296 * B + 281474976710656 * h
/-- With its first k fields alone. -/
def accW (P I B h : Nat) (k : Nat) : Nat := if k = 0 then 0 else if k = 1 then P else if k = 2 then P + 65536 * I else if k = 3 then P + 65536 * I + 4294967296 * B else fieldsW P I B h
/-- Field k: where, how wide, what. -/
def atW (k : Nat) : Nat := 16 * k
def wdW (k : Nat) : Nat := if k = 3 then 1 else 16
def numW (P I B h : Nat) (k : Nat) : Nat := if k = 0 then P else if k = 1 then I else if k = 2 then B else h
/-- They fit. -/
structure Fits (P I B h : Nat) : Prop where
  p : P < 65536
  i : I < 65536
  b : B < 65536
  h : h < 2
theorem put_top (w a n v : Nat) (hw : w < 2 ^ a) : put w a n v = w + 2 ^ a * v := by
  unfold put
  have h1 : w / 2 ^ (a + n) = 0 := Nat.div_eq_of_lt (Nat.lt_of_lt_of_le hw (Nat.pow_le_pow_right (by decide) (by omega)))
  rw [h1, Nat.mod_eq_of_lt hw, Nat.mul_zero, Nat.zero_add, Nat.add_comm]
theorem acc_step {P I B h : Nat} (hf : Fits P I B h) {k : Nat} (hk : k < 4) : put (accW P I B h k) (atW k) (wdW k) (numW P I B h k) = accW P I B h (k + 1) ∧ numW P I B h k < 2 ^ wdW k ∧ accW P I B h k < 18446744073709551616 := by
  obtain ⟨h1, h2, h3, h4⟩ := hf
  rcases (by omega : k = 0 ∨ k = 1 ∨ k = 2 ∨ k = 3) with rfl | rfl | rfl | rfl
  all_goals
    simp only [accW, atW, wdW, numW, fieldsW]
    refine ⟨?_, ?_, ?_⟩
  all_goals first | (rw [put_top _ _ _ _ (by simp <;> omega)]; simp <;> omega) | (simp <;> omega)
theorem acc_all (P I B h : Nat) : accW P I B h 4 = fieldsW P I B h := rfl
theorem fields_lt {P I B h : Nat} (hf : Fits P I B h) : fieldsW P I B h < 562949953421312 := by
  obtain ⟨h1, h2, h3, h4⟩ := hf
  unfold fieldsW; omega
/-- Words 0 to 6. -/
def supL (P I B h : Nat) : List Nat := [titleW, fieldsW P I B h, 0, 0, 0, 0, 0]
/-- With the first k fields alone. -/
def supTo (P I B h k : Nat) : List Nat := [titleW, accW P I B h k, 0, 0, 0, 0, 0]
theorem sup_wd {P I B h : Nat} (hf : Fits P I B h) : Wd (supL P I B h) := Wd.of_mem fun x hx => by
  have := fields_lt hf
  have := title_lt
  simp only [supL, List.mem_cons, List.not_mem_nil, or_false] at hx
  omega
/-- The words of a superblock. -/
def superL (P I B h : Nat) : List Nat := sealed (supL P I B h)
/-- What the word of fields specifies. -/
def fP (f : Nat) : Nat := f % 65536
def fI (f : Nat) : Nat := f / 65536 % 65536
def fB (f : Nat) : Nat := f / 4294967296 % 65536
def fH (f : Nat) : Nat := f / 281474976710656 % 2
theorem f_fits (f : Nat) : Fits (fP f) (fI f) (fB f) (fH f) := ⟨Nat.mod_lt _ (by decide), Nat.mod_lt _ (by decide), Nat.mod_lt _ (by decide), Nat.mod_lt _ (by decide)⟩
theorem f_fields (f : Nat) : fieldsW (fP f) (fI f) (fB f) (fH f) = f % 562949953421312 := by
  unfold fieldsW fP fI fB fH; omega
theorem f_of {P I B h : Nat} (hf : Fits P I B h) : fP (fieldsW P I B h) = P ∧ fI (fieldsW P I B h) = I ∧ fB (fieldsW P I B h) = B ∧ fH (fieldsW P I B h) = h := by
  obtain ⟨h1, h2, h3, h4⟩ := hf
  unfold fieldsW fP fI fB fH; omega
/-- Field k of a word. -/
theorem fld_num (f k : Nat) (hk : k < 4) : fld f (atW k) (wdW k) = numW (fP f) (fI f) (fB f) (fH f) k := by
  rcases (by omega : k = 0 ∨ k = 1 ∨ k = 2 ∨ k = 3) with rfl | rfl | rfl | rfl
  all_goals simp [fld, atW, wdW, numW, fP, fI, fB, fH]
instance gok_dec (P I B : Int) : Decidable (GOK P I B) := by unfold GOK; infer_instance
/-- Where words are no superblock. -/
def badAt (l : List Nat) : Option Nat :=
  if ¬ (l.length = 8 ∧ l.getD 0 0 = titleW) then some 0
  else if ¬ isSealed l then some 7
  else if ¬ (l.getD 1 0 < 562949953421312 ∧ GOK (fP (l.getD 1 0)) (fI (l.getD 1 0)) (fB (l.getD 1 0))) then some 1
  else if l.getD 2 0 ≠ 0 then some 2
  else if l.getD 3 0 ≠ 0 then some 3
  else if l.getD 4 0 ≠ 0 then some 4
  else if l.getD 5 0 ≠ 0 then some 5
  else if l.getD 6 0 ≠ 0 then some 6
  else none
end Go.Proofs.YtgedahjifbopcaaDoor
