/- What the document's own Text hands back: the bytes of the words. -/
import Derived.Test.YtlfpjfijlngpcaaDoorRefGet
import Derived.Test.YtlfpjfijlngpcaaDoorBytes
import Derived.Test.YtlfpjfijlngpcaaDoorPackMath
set_option linter.unusedSimpArgs false
set_option linter.unusedVariables false
namespace Go.Proofs.YtlfpjfijlngpcaaDoor
open Go.RowKit WordMath

theorem u64_info : (Tryd.prog.info? 26).map (fun i => (i.zero, i.size, i.bytes)) = some (some (.int .u64 0), 1, 8) := by kernel_rfl
theorem u8_info : (Tryd.prog.info? 5).map (fun i => (i.zero, i.size, i.bytes)) = some (some (.int .u8 0), 1, 1) := by kernel_rfl
def isTxt (l : List Nat) (n : Int) : Prop := 0 ≤ n ∧ n ≤ 8 * l.length
instance isTxt_dec (l : List Nat) (n : Int) : Decidable (isTxt l n) := by unfold isTxt; infer_instance
/-- What Text answers. -/
def txtV (l : List Nat) (n : Int) : ByteArray := if isTxt l n then ⟨(textL l n.toNat).toArray⟩ else ⟨#[]⟩
def txtE (l : List Nat) (n : Int) : Int := if isTxt l n then 0 else 2
theorem txtV_yes {l : List Nat} {n : Int} (h : isTxt l n) : txtV l n = ⟨(textL l n.toNat).toArray⟩ := if_pos h
theorem txtE_yes {l : List Nat} {n : Int} (h : isTxt l n) : txtE l n = 0 := if_pos h
theorem txtV_no {l : List Nat} {n : Int} (h : ¬ isTxt l n) : txtV l n = ⟨#[]⟩ := if_neg h
theorem txtE_no {l : List Nat} {n : Int} (h : ¬ isTxt l n) : txtE l n = 2 := if_neg h
/-- It hands back a text and an error; nothing that was there has turned. -/
def GivesText (s : ByteArray) (err : Int) (w : World) (e : Ending) (w' : World) : Prop :=
  e = .returned (.tuple #[.string s, .int .i64 err]) ∧ Below w.heap.size w w'
theorem refget8_calls (v a : Int) (w : World) (v0 : 0 ≤ v) (v1 : v < 18446744073709551616) (a0 : 0 ≤ a) (a1 : a ≤ 56) :
    Calls Tryd.prog 39 #[.int .u64 v, .int .i64 a, .int .i64 8] w fun e w' => e = .returned (.tuple #[.int .u64 (fld v.toNat a.toNat 8 : Nat), .int .i64 0]) ∧ w = w' := by
  have hp : isFld a 8 := ⟨a0, by omega, by omega⟩
  have h := refget_calls v a 8 w v0 v1 (by omega)
  rw [getV_yes hp, getE_yes hp] at h
  exact h
set_option maxRecDepth 100000 in
theorem rtext_calls (A : Option Addr) (l : List Nat) (c : Nat) (n : Int) (w : World) (hn : -9223372036854775808 ≤ n) (hn2 : n ≤ 9223372036854775807) (hr : Row w A l) (hl : Wd l) (hlen : l.length ≤ 1099511627776) :
    Calls Tryd.prog 28 #[.slice A l.length c, .int .i64 n] w (GivesText (txtV l n) (txtE l n) w) := by
  obtain ⟨i0, hi0, hz0, hs0, hb0⟩ := info_parts u8_info
  by_cases h : isTxt l n
  · have kv := Lib.hid (txtV_yes h)
    have ke := Lib.hid (txtE_yes h)
    obtain ⟨h0, h1⟩ := h
    obtain ⟨n, rfl⟩ := Int.eq_ofNat_of_zero_le h0
    rw [Int.toNat_natCast] at kv
    have HZ := Lib.hid hz0
    have HS := Lib.hid hs0
    have HB := Lib.hid hb0
    have HI := Lib.hid hi0
    clear hz0 hs0 hb0 hi0
    by_cases hn0 : (n : Int) ≤ 0
    · have hconv := run_text_own (P := Tryd.prog) (s := []) (World.ownsRow_nil w w.heap.size 5 1) 88 9 Tryd.underlying88 Tryd.underlying5 Tryd.underlying9
      have kn : Hid (textL l n = []) := by
        show textL l n = []
        rw [show n = 0 by omega]; rfl
      go_enter Tryd.func28, Tryd.ntmps28
      go_wp2_with (fail)
      go_loopw [6, 7] (fun v i wr => i = .int .i64 0 ∧ v = .slice none 0 0 ∧ w = wr) (fun _ _ _ => 0)
      case atStart => exact ⟨rfl, rfl, rfl⟩
      case round =>
        obtain ⟨rfl, rfl, rfl⟩ := hrel
        go_wp2_with (fail)
        go_ret2
        rw [kv.out, ke.out, kn.out]
        exact ⟨rfl, Below.refl _ _⟩
    · have hn8 : ((n : Int) - 1) / 8 < l.length := by omega
      go_enter Tryd.func28, Tryd.ntmps28
      go_wp2_with (fail)
      go_loopw [6, 7] (fun v i wr => ∃ k : Nat, i = .int .i64 k ∧ k ≤ n ∧ wr.ownsRow w.heap.size 5 1 v k (bv (textL l k)) ∧ Below w.heap.size w wr) (fun _ i _ => n - (intOf i).toNat)
      case atStart => exact ⟨0, rfl, by omega, World.ownsRow_nil _ _ _ _, Below.refl _ _⟩
      case round =>
        obtain ⟨k, rfl, hk, hown, hb⟩ := hrel
        by_cases hks : k < n
        · have hk8 : k / 8 < l.length := by omega
          obtain ⟨ad, rfl, _, hcs⟩ := hr.below hb (by omega)
          have hcl := hcs (k / 8) hk8
          have hw := hl (k / 8)
          have hts := Lib.hid (textL_succ l k)
          clear hcs hl hr
          generalize l.getD (k / 8) 0 = x at *
          have hfl : fld x (8 * (k % 8)) 8 < 256 := by simpa using fld_lt x (8 * (k % 8)) 8
          have hbs := hb.size
          go_wp2_with (first
            | (go_at_call 39; refine (refget8_calls _ _ _ (by omega) (by omega) (by omega) (by omega)).mono ?_; rintro e w' ⟨rfl, rfl⟩)
            | (at_builtin; refine wpList_append_own _ rfl (.tmp 41) (.tmp 44) 88 rfl w.heap.size 5 i0 (.int .u8 0) 1 1 Tryd.underlying88 HI.out HZ.out HS.out HB.out rfl (by decide) u6 k (bv (textL l k)) rfl (hown.alloc _) ⟨wr.heap.size, 0, none⟩ 1 1 [.int .u8 ((fld x (8 * (k % 8)) 8 : Nat) : Int)] rfl rfl (cell_one_new _ _ _) (by simp [Value.oneCell']) (by unfold maxLen; omega) (by omega) (by simp; omega) ?_; intro v1 w1 hown1 hgrow1 _))
          go_roundw
          case rel =>
            refine ⟨k + 1, by go_num, by omega, ?_, (hb.alloc hb.size _).grown hgrow1 (by simp; omega) fun g hg => (hown.lt g hg).1⟩
            rw [hts.out, bv_append]
            have e : bv [UInt8.ofNat (fld x (8 * (k % 8)) 8)] = [Value.int .u8 ((fld x (8 * (k % 8)) 8 : Nat) : Int)] := by
              simp [bv, Nat.mod_eq_of_lt hfl]
            rw [e]; exact hown1
          case measure => simp [intOf]; omega
        · have hconv := run_text_own (P := Tryd.prog) hown 88 9 Tryd.underlying88 Tryd.underlying5 Tryd.underlying9
          obtain rfl : k = n := by omega
          go_wp2_with (fail)
          go_ret2
          rw [kv.out, ke.out]
          exact ⟨rfl, hb⟩
  · have kv := Lib.hid (txtV_no h)
    have ke := Lib.hid (txtE_no h)
    unfold isTxt at h
    by_cases hn0 : n < 0
    · clear h
      go_enter Tryd.func28, Tryd.ntmps28
      go_wp2_with (fail)
      go_ret2
      rw [kv.out, ke.out]
      exact ⟨rfl, Below.refl _ _⟩
    · have h2 : l.length ≤ (n - 1) / 8 := by omega
      have h3 : 0 < n := by omega
      clear h
      go_enter Tryd.func28, Tryd.ntmps28
      go_wp2_with (fail)
      go_ret2
      rw [kv.out, ke.out]
      exact ⟨rfl, Below.refl _ _⟩
end Go.Proofs.YtlfpjfijlngpcaaDoor
