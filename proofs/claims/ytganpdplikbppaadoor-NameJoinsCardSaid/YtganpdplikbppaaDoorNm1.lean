/- Dots, and what is wrong with a path whatever its parts are. -/
import Derived.Test.YtganpdplikbppaaDoorProg
import Derived.Test.YtganpdplikbppaaDoorShelf
import Derived.Test.YtganpdplikbppaaDoorNmMath
import Derived.Test.YtganpdplikbppaaDoorMem
import Derived.WalkKit
import Derived.WalkSpells
import Derived.WalkLawsBesides
import Derived.Lib.Hide
import Derived.Deep.QuietTactic
import Derived.BigQuiet
set_option linter.unusedSimpArgs false
set_option linter.unusedVariables false
namespace Go.Proofs.YtganpdplikbppaaDoor
open Go.RowKit Go.Lib

theorem dots_calls (s : ByteArray) (w : World) :
    Calls Tryd.prog 11 #[.string s] w fun e w' => e = .returned (.bool (dotsB s.data.toList)) ∧ w' = w := by
  go_enter Tryd.func11, Tryd.ntmps11
  go_wp2_with (fail)
  all_goals (go_ret; refine ⟨?_, rfl⟩; unfold dotsB; rw [← toList_data]; simp [*])
theorem empty_iff (s : ByteArray) : s.toList.isEmpty = true ↔ s.data.toList = [] := by rw [toList_data, List.isEmpty_iff]
theorem whole_empty {s : ByteArray} (h : s.toList.isEmpty = true) : wholeE s.data.toList = 602 := by
  unfold wholeE; rw [if_pos ((empty_iff s).1 h)]
theorem not_empty {s : ByteArray} (h : s.toList.isEmpty = false) : ¬ s.data.toList = [] := fun e => by rw [(empty_iff s).2 e] at h; cases h
theorem whole_long {s : ByteArray} (h : s.toList.isEmpty = false) (h2 : 64 < (s.size : Int)) : wholeE s.data.toList = 636 := by
  unfold wholeE; rw [if_neg (not_empty h), if_pos (by rw [← size_eq]; omega)]
theorem whole_zero {s : ByteArray} (h : s.toList.isEmpty = false) (h2 : (s.size : Int) ≤ 64) (h3 : 0 ≤ indexByte s.data.toList 0) : wholeE s.data.toList = 622 := by
  unfold wholeE; rw [if_neg (not_empty h), if_neg (by rw [← size_eq]; omega), if_pos (by rw [← index_pos]; exact decide_eq_true h3)]
theorem whole_fine {s : ByteArray} (h : s.toList.isEmpty = false) (h2 : (s.size : Int) ≤ 64) (h3 : indexByte s.data.toList 0 < 0) : wholeE s.data.toList = 0 := by
  unfold wholeE; rw [if_neg (not_empty h), if_neg (by rw [← size_eq]; omega), if_neg (by rw [← index_pos]; simpa using h3)]
theorem whole_calls (s : ByteArray) (w : World) :
    Calls Tryd.prog 24 #[.string s] w fun e w' => e = .returned (.int .i64 (wholeE s.data.toList)) ∧ w' = w := by
  go_enter Tryd.func24, Tryd.ntmps24
  go_wp2_with (go_at_call 34; refine (Tryd.strings_Contains_one _ 0 _).mono ?_; rintro e w' ⟨rfl, rfl⟩)
  · have k := whole_empty (s := s) (by assumption)
    go_ret; exact ⟨by rw [k]; rfl, rfl⟩
  · have k := whole_long (s := s) (by assumption) (by assumption)
    go_ret; exact ⟨by rw [k]; rfl, rfl⟩
  · have k := whole_zero (s := s) (by assumption) (by assumption) (by assumption)
    go_ret; exact ⟨by rw [k]; rfl, rfl⟩
  · have k := whole_fine (s := s) (by assumption) (by assumption) (by assumption)
    go_ret; exact ⟨by rw [k]; rfl, rfl⟩
theorem check_empty {s : ByteArray} (h : s.toList.isEmpty = true) : checkE s.data.toList = 602 := by
  unfold checkE; rw [if_pos ((empty_iff s).1 h)]
theorem check_bytes {s : ByteArray} (h : s.toList.isEmpty = false) (h2 : has2 s.data.toList = true) : checkE s.data.toList = 622 := by
  unfold checkE; rw [if_neg (not_empty h), if_pos h2]
theorem check_long {s : ByteArray} (h : s.toList.isEmpty = false) (h2 : has2 s.data.toList = false) (h3 : 16 < (s.size : Int)) : checkE s.data.toList = 636 := by
  unfold checkE; rw [if_neg (not_empty h), if_neg (by rw [h2]; simp), if_pos (by rw [← size_eq]; omega)]
theorem check_fine {s : ByteArray} (h : s.toList.isEmpty = false) (h2 : has2 s.data.toList = false) (h3 : (s.size : Int) ≤ 16) : checkE s.data.toList = 0 := by
  unfold checkE; rw [if_neg (not_empty h), if_neg (by rw [h2]; simp), if_neg (by rw [← size_eq]; omega)]
end Go.Proofs.YtganpdplikbppaaDoor
