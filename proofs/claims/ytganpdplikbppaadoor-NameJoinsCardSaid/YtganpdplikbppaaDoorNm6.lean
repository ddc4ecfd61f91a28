/- Rows of texts; whether the last part is one of the dots; buckets; the document's has, Check and Dots. -/
import Derived.Test.YtganpdplikbppaaDoorNm1
import Derived.Test.YtganpdplikbppaaDoorCel
import Derived.Test.YtganpdplikbppaaDoorSumMore
import Derived.Test.YtganpdplikbppaaDoorRefOf
set_option linter.unusedSimpArgs false
set_option linter.unusedVariables false
namespace Go.Proofs.YtganpdplikbppaaDoor
open Go.RowKit Go.Lib SumMath

abbrev tl (s : ByteArray) : List UInt8 := s.data.toList
/-- Texts as cells. -/
def sv (xs : List ByteArray) : List Value := xs.map Value.string
theorem sv_length (xs : List ByteArray) : (sv xs).length = xs.length := by simp [sv]
theorem sv_at {xs : List ByteArray} {k : Nat} {x : ByteArray} (h : xs[k]? = some x) : (sv xs)[k]? = some (.string x) := by simp [sv, h]
theorem sv_append (xs ys : List ByteArray) : sv (xs ++ ys) = sv xs ++ sv ys := by simp [sv]
theorem ends_snoc (zs : List ByteArray) (d : ByteArray) : endsB ((zs ++ [d]).map tl) = dotsB (tl d) := by
  unfold endsB
  rw [List.map_append, List.map_singleton, List.getLast?_concat]
set_option maxRecDepth 100000 in
theorem ends_calls (A : Option Addr) (xs : List ByteArray) (c : Nat) (w : World) (hc : Cel w A (sv xs)) (hl : xs.length ≤ 1099511627776) :
    Calls Tryd.prog 28 #[.slice A xs.length c] w fun e w' => e = .returned (.bool (endsB (xs.map tl))) ∧ w' = w := by
  rcases List.eq_nil_or_concat xs with rfl | ⟨zs, d, rfl⟩
  · go_enter Tryd.func28, Tryd.ntmps28
    go_wp2_with (fail)
    go_ret
    exact ⟨rfl, rfl⟩
  · rw [List.concat_eq_append] at hc hl ⊢
    have he := Lib.hid (ends_snoc zs d)
    obtain ⟨ad, rfl, hlt, hcell⟩ := hc (by rw [sv_length]; simp)
    have hcd := hcell zs.length (.string d) (sv_at (by simp))
    clear hcell
    have hlen : (zs ++ [d]).length = zs.length + 1 := by simp
    rw [hlen] at hl ⊢
    go_enter Tryd.func28, Tryd.ntmps28
    go_wp2_with (go_at_call 11; refine (dots_calls _ _).mono ?_; rintro e w' ⟨rfl, rfl⟩)
    go_ret
    exact ⟨by rw [he.out]; rfl, rfl⟩
def bucketV (l : List UInt8) : Int := ((moreV 0 (bytesN l) : Nat) : Int) % 4
theorem bucket_calls (s : ByteArray) (w : World) (hs : s.size ≤ 1099511627776) (hT : TabAt w) :
    Calls Tryd.prog 13 #[.string s] w fun e w' => e = .returned (.int .i64 (bucketV s.data.toList)) ∧ w' = w := by
  go_enter Tryd.func13, Tryd.ntmps13
  go_wp2_with (go_at_call 22; refine (of_calls _ _ hs hT).mono ?_; rintro e w' ⟨rfl, rfl⟩)
  go_ret
  exact ⟨rfl, rfl⟩
theorem rbucket_calls (s : ByteArray) (w : World) (hs : s.size ≤ 1099511627776) :
    Calls Tryd.prog 14 #[.string s] w fun e w' => e = .returned (.int .i64 (bucketV s.data.toList)) ∧ w' = w := by
  go_enter Tryd.func14, Tryd.ntmps14
  go_wp2_with (go_at_call 23; refine (rof_calls _ _ hs).mono ?_; rintro e w' ⟨rfl, rfl⟩)
  go_ret
  exact ⟨rfl, rfl⟩
theorem rdots_calls (s : ByteArray) (w : World) :
    Calls Tryd.prog 12 #[.string s] w fun e w' => e = .returned (.bool (dotsB s.data.toList)) ∧ w' = w := by
  go_enter Tryd.func12, Tryd.ntmps12
  go_wp2_with (fail)
  all_goals (go_ret; refine ⟨?_, rfl⟩; unfold dotsB; rw [← toList_data]; simp [*])
/-- None of the first k bytes. -/
def Lacks (s : ByteArray) (c : UInt8) (k : Nat) : Prop := ∀ j, j < k → (tl s)[j]? ≠ some c
theorem Lacks.succ {s : ByteArray} {c : UInt8} {k : Nat} (h : Lacks s c k) (hk : k < s.size) (hn : s[k] ≠ c) : Lacks s c (k + 1) := fun j hj e => by
  by_cases hlt : j < k
  · exact h j hlt e
  · obtain rfl : j = k := by omega
    rw [data_getElem? s j hk] at e
    exact hn (Option.some.inj e)
theorem Lacks.all {s : ByteArray} {c : UInt8} (h : Lacks s c s.size) : hasC (tl s) c = false := by
  unfold hasC
  have : c ∉ tl s := fun hm => by
    obtain ⟨k, hk, e⟩ := List.getElem_of_mem hm
    exact h k (by rw [size_eq]; exact hk) (by rw [List.getElem?_eq_getElem hk, e])
  simpa using this
theorem hasC_at {s : ByteArray} {c : UInt8} {k : Nat} (hk : k < s.size) (h : s[k] = c) : hasC (tl s) c = true := by
  unfold hasC
  have : c ∈ tl s := List.mem_of_getElem? (by rw [← h]; exact data_getElem? s k hk)
  simpa using this
set_option maxRecDepth 100000 in
theorem has_calls (s : ByteArray) (c : UInt8) (w : World) (hs : s.size ≤ 1099511627776) :
    Calls Tryd.prog 21 #[.string s, .int .u8 (c.toNat : Nat)] w fun e w' => e = .returned (.bool (hasC (tl s) c)) ∧ w' = w := by
  obtain ⟨C, hC⟩ : ∃ C : Int, (c.toNat : Int) = C := ⟨_, rfl⟩
  rw [hC]
  go_enter Tryd.func21, Tryd.ntmps21
  go_wp2_with (fail)
  go_loop [5] (fun i => ∃ k : Nat, i = .int .i64 k ∧ k ≤ s.size ∧ Lacks s c k) (fun i => s.size - (RowKit.intOf i).toNat)
  case atStart => exact ⟨0, rfl, by omega, fun j h => absurd h (Nat.not_lt_zero _)⟩
  case round =>
    obtain ⟨k, rfl, hk, hn⟩ := hrel
    have HN := Lib.hid hn
    clear hn
    by_cases h1 : k < s.size
    · by_cases he : s[k] = c
      · have t1 : ((s[k].toNat : Int) == C) = true := by rw [beq_iff_eq, he, hC]
        have H := Lib.hid (hasC_at h1 he)
        clear he
        go_wp2_with (fail)
        go_ret
        exact ⟨by rw [H.out]; rfl, rfl⟩
      · have t1 : ((s[k].toNat : Int) == C) = false := by
          rw [beq_eq_false_iff_ne, ← hC]
          intro e
          exact he (UInt8.toNat_inj.1 (by omega))
        have H := Lib.hid (HN.out.succ h1 he)
        clear he
        go_wp2_with (fail)
        go_round
        case rel => exact ⟨k + 1, by go_num, by omega, H.out⟩
        case measure => simp [RowKit.intOf]; omega
    · obtain rfl : k = s.size := by omega
      go_wp2_with (fail)
      go_ret
      exact ⟨by rw [HN.out.all]; rfl, rfl⟩
theorem has_lit (s : ByteArray) (C : Int) (w : World) (h0 : 0 ≤ C) (h1 : C < 256) (hs : s.size ≤ 1099511627776) :
    Calls Tryd.prog 21 #[.string s, .int .u8 C] w fun e w' => e = .returned (.bool (hasC (tl s) C.toNat.toUInt8)) ∧ w' = w := by
  have := has_calls s C.toNat.toUInt8 w hs
  have e : ((C.toNat.toUInt8.toNat : Nat) : Int) = C := by
    have : C.toNat.toUInt8.toNat = C.toNat := by simp [UInt8.toNat_ofNat]; omega
    rw [this]; omega
  rw [e] at this
  exact this
theorem has2_yes {l : List UInt8} (h : hasC l 0 = true) : has2 l = true := by
  show (hasC l 0 || hasC l 47) = true
  rw [h]; rfl
theorem has2_snd {l : List UInt8} (h : ¬ hasC l 0 = true) : has2 l = hasC l 47 := by
  have h' : hasC l 0 = false := by simpa using h
  show (hasC l 0 || hasC l 47) = _
  rw [h']; rfl
theorem rcheck_calls (s : ByteArray) (w : World) (hs : s.size ≤ 1099511627776) :
    Calls Tryd.prog 10 #[.string s] w fun e w' => e = .returned (.int .i64 (checkE s.data.toList)) ∧ w' = w := by
  go_enter Tryd.func10, Tryd.ntmps10
  go_wp2_with (go_at_call 21; refine (has_lit s _ _ (by omega) (by omega) hs).mono ?_; rintro e w' ⟨rfl, rfl⟩)
  · have k := check_empty (s := s) (by assumption)
    go_ret; exact ⟨by rw [k]; rfl, rfl⟩
  · have k := check_bytes (s := s) (by assumption) (has2_yes (by assumption))
    go_ret; exact ⟨by rw [k]; rfl, rfl⟩
  · have k := check_bytes (s := s) (by assumption) ((has2_snd (by assumption)).trans (by assumption))
    go_ret; exact ⟨by rw [k]; rfl, rfl⟩
  · have k := check_long (s := s) (by assumption) ((has2_snd (by assumption)).trans (by assumption)) (by assumption)
    go_ret; exact ⟨by rw [k]; rfl, rfl⟩
  · have k := check_fine (s := s) (by assumption) ((has2_snd (by assumption)).trans (by assumption)) (by assumption)
    go_ret; exact ⟨by rw [k]; rfl, rfl⟩
theorem owns_ge {A : World} {base size k : Nat} {e : TypeId} {v : Value} {xs : List Value} (h : A.ownsRow base e size v k xs) : ∀ j, v.ownBlock = some j → base ≤ j := fun j hj => by
  rcases h.2 with ⟨rfl, _⟩ | ⟨g, cap, cur, rfl, hb, _⟩
  · simp [Value.ownBlock] at hj
  · obtain rfl : g = j := by simpa [Value.ownBlock] using hj
    exact hb
end Go.Proofs.YtganpdplikbppaaDoor
