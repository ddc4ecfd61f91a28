/- lacks, Lines, Load, Is. -/
import Derived.Test.YtghppmgieljgiaaMed
import Derived.WalkKit
import Derived.WalkSpells
import Derived.WalkLawsBesides
import Derived.Lib.Hide
import Derived.Deep.QuietTactic
import Derived.BigQuiet
import Derived.Outline
namespace Go.Proofs.Ytghppmgieljgiaa
open Go.RowKit
section
variable {w : World} {g gk ck gs cs cp : Nat} {A : Option Addr} {K S : List Nat} {L : List Pn}
theorem lacks_nil (a : Int) (w : World) : Calls Try.prog 33 #[.pointer none, .int .i64 a] w fun e w' => e = .returned (.int .i64 1) ∧ w = w' := by
  go_enter Try.func33, Try.ntmps33
  go_wp2
  go_ret
  exact ⟨rfl, rfl⟩
theorem lacks_in (h : DevC w g gk ck gs cs A cp K S L) (a : Nat) (ha : a < K.length) (_ : K.length ≤ 9223372036854775807) :
    Calls Try.prog 33 #[.pointer (some ⟨g, 0, none⟩), .int .i64 (a : Nat)] w fun e w' => e = .returned (.int .i64 0) ∧ w = w' := by
  have c0 := h.c0
  clear h
  go_enter Try.func33, Try.ntmps33
  go_wp2
  go_ret
  exact ⟨rfl, rfl⟩
theorem lacks_out (h : DevC w g gk ck gs cs A cp K S L) (a : Int) (ha : ¬ (0 ≤ a ∧ a < K.length)) (_ : K.length ≤ 9223372036854775807) :
    Calls Try.prog 33 #[.pointer (some ⟨g, 0, none⟩), .int .i64 a] w fun e w' => e = .returned (.int .i64 2) ∧ w = w' := by
  have c0 := h.c0
  clear h
  by_cases h0 : a < 0
  · go_enter Try.func33, Try.ntmps33
    go_wp2
    go_ret
    exact ⟨rfl, rfl⟩
  · have h1 : (K.length : Int) ≤ a := by omega
    go_enter Try.func33, Try.ntmps33
    go_wp2
    go_ret
    exact ⟨rfl, rfl⟩
theorem lines_nil (w : World) : Calls Try.prog 12 #[.pointer none] w fun e w' => e = .returned (.int .i64 0) ∧ w = w' := by
  go_enter Try.func12, Try.ntmps12
  go_wp2
  go_ret
  exact ⟨rfl, rfl⟩
theorem lines_calls (h : DevC w g gk ck gs cs A cp K S L) (n : Nat) (hn : K.length = 8 * n) (hm : n ≤ 4096) :
    Calls Try.prog 12 #[.pointer (some ⟨g, 0, none⟩)] w fun e w' => e = .returned (.int .i64 (n : Nat)) ∧ w = w' := by
  have c0 := h.c0
  clear h
  rw [hn] at c0
  go_enter Try.func12, Try.ntmps12
  go_wp2
  go_ret
  exact ⟨rfl, rfl⟩
theorem load_nil (a : Int) (w : World) : Calls Try.prog 22 #[.pointer none, .int .i64 a] w fun e w' => e = .returned (.tuple #[.int .u64 0, .int .i64 1]) ∧ w = w' := by
  go_enter Try.func22, Try.ntmps22
  go_wp2_with (go_at_call 33; refine (lacks_nil _ _).mono ?_; rintro e w' ⟨rfl, rfl⟩)
  go_ret2
  exact ⟨rfl, rfl⟩
theorem load_in (h : DevC w g gk ck gs cs A cp K S L) (a : Nat) (ha : a < K.length) (hs : S.length = K.length) (hm : K.length ≤ 9223372036854775807) :
    Calls Try.prog 22 #[.pointer (some ⟨g, 0, none⟩), .int .i64 (a : Nat)] w fun e w' => e = .returned (.tuple #[.int .u64 ((S.getD a 0 : Nat) : Int), .int .i64 0]) ∧ w = w' := by
  have c1 := h.c1
  have hc := h.hs.cell a (by omega)
  have HS := Lib.hid hs
  have ha' : a < S.length := by omega
  clear hs
  go_enter Try.func22, Try.ntmps22
  go_wp2_with (go_at_call 33; refine (lacks_in h a ha hm).mono ?_; rintro e w' ⟨rfl, rfl⟩)
  go_ret2
  exact ⟨by simp [List.getD_eq_getElem?_getD, ha'], rfl⟩
theorem load_out (h : DevC w g gk ck gs cs A cp K S L) (a : Int) (ha : ¬ (0 ≤ a ∧ a < K.length)) (hm : K.length ≤ 9223372036854775807) :
    Calls Try.prog 22 #[.pointer (some ⟨g, 0, none⟩), .int .i64 a] w fun e w' => e = .returned (.tuple #[.int .u64 0, .int .i64 2]) ∧ w = w' := by
  go_enter Try.func22, Try.ntmps22
  go_wp2_with (go_at_call 33; refine (lacks_out h a ha hm).mono ?_; rintro e w' ⟨rfl, rfl⟩)
  go_ret2
  exact ⟨rfl, rfl⟩
end
end Go.Proofs.Ytghppmgieljgiaa
