/- What Text hands back, the program's and the document's own: the bytes of the words. -/
import Derived.Test.YtllamgefoibcoaaDoorRefPack
import Derived.Test.YtllamgefoibcoaaDoorBytes
namespace Go.Proofs.YtllamgefoibcoaaDoor
open Go.RowKit WordMath

theorem u8_info : (Tryd.prog.info? 5).map (fun i => (i.zero, i.size, i.bytes)) = some (some (.int .u8 0), 1, 1) := by kernel_rfl
def isTxt (l : List Nat) (n : Int) : Prop := 0 ≤ n ∧ n ≤ 8 * l.length
instance isTxt_dec (l : List Nat) (n : Int) : Decidable (isTxt l n) := by unfold isTxt; infer_instance
/-- What Text answers. -/
def txtV (l : List Nat) (n : Int) : ByteArray := if isTxt l n then ⟨(textL l n.toNat).toArray⟩ else ⟨#[]⟩
def txtE (l : List Nat) (n : Int) : Int := if isTxt l n then 0 else 2
theorem txtV_yes {l : List Nat} {n : Int} (h : isTxt l n) : txtV l n = ⟨(textL l n.toNat).toArray⟩ := if_pos h
theorem txtE_yes {l : List Nat} {n : Int} (h : isTxt l n) : txtE l n = 0 := if_pos h
theorem txtV_no {l : List Nat} {n : Int} (h : ¬ isTxt l n) : txtV l n = ⟨#[]⟩ := if_neg h
theorem txtE_no {l : List Nat} {n : Int} (h : ¬ isTxt l n) : txtE l n = 2 := if_neg h
/-- It hands back a text and an error; nothing that was there has turned. -/
def GivesText (s : ByteArray) (err : Int) (w : World) (e : Ending) (w' : World) : Prop :=
  e = .returned (.tuple #[.string s, .int .i64 err]) ∧ Below w.heap.size w w'
/-- The byte that the field at a is. -/
def byteOf (l : List Nat) (k : Nat) : UInt8 := UInt8.ofNat (fld (l.getD (k / 8) 0) (8 * (k % 8)) 8)
theorem byte_key (x k : Nat) : (x : Int) / 2 ^ (k % 8 * 8) % 256 = ((UInt8.ofNat (fld x (8 * (k % 8)) 8)).toNat : Int) := by
  have e : ((x : Int) / 2 ^ (k % 8 * 8)) = ((x / 2 ^ (8 * (k % 8)) : Nat) : Int) := by rw [Nat.mul_comm (k % 8) 8]; simp
  rw [e]
  unfold fld
  simp
/-- The bytes behind k rounds. -/
def part (l : List Nat) (n k : Nat) : List UInt8 := textL l k ++ List.replicate (n - k) 0
theorem part_set (l : List Nat) (n k : Nat) (h : k < n) : (part l n k).set k (byteOf l k) = part l n (k + 1) := by
  unfold part
  rw [List.set_append_right _ _ (by rw [textL_len]; exact Nat.le_refl _), textL_len, Nat.sub_self, show n - k = (n - (k + 1)) + 1 by omega, List.replicate_succ, List.set_cons_zero, textL_succ]
  simp [byteOf]
theorem part_len (l : List Nat) (n k : Nat) (h : k ≤ n) : (part l n k).length = n := by
  unfold part; rw [List.length_append, textL_len, List.length_replicate]; omega
theorem part_all (l : List Nat) (n : Nat) : part l n n = textL l n := by unfold part; simp
theorem text_calls (A : Option Addr) (l : List Nat) (c : Nat) (n : Int) (w : World) (hn : -9223372036854775808 ≤ n) (hr : Row w A l) (hl : Wd l) (hlen : l.length ≤ 1099511627776) :
    Calls Tryd.prog 22 #[.slice A l.length c, .int .i64 n] w (GivesText (txtV l n) (txtE l n) w) := by
  by_cases h : isTxt l n
  · have kv := Lib.hid (txtV_yes h)
    have ke := Lib.hid (txtE_yes h)
    obtain ⟨h0, h1⟩ := h
    obtain ⟨n, rfl⟩ := Int.eq_ofNat_of_zero_le h0
    rw [Int.toNat_natCast] at kv
    have hmk := run_make_row' (P := Tryd.prog) 51 5 (.int .u8 0) 1 Tryd.underlying51 u8_info rfl .i64 .i64 n (by omega) (by omega)
    have hb0 := Lib.hid (Bblk.new w 5 n)
    go_enter Tryd.func22, Tryd.ntmps22
    go_wp2_with (fail)
    go_loopw [20] (fun i wr => ∃ k : Nat, i = .int .i64 k ∧ k ≤ n ∧ Bblk 5 wr w.heap.size (part l n k) ∧ Below w.heap.size w wr) (fun i _ => n - (intOf i).toNat)
    case atStart => exact ⟨0, rfl, by omega, by rw [show part l n 0 = List.replicate n 0 by simp [part, textL]]; exact hb0.out, (Below.refl _ _).alloc (Nat.le_refl _) _⟩
    case round =>
      obtain ⟨k, rfl, hk, hB, hb⟩ := hrel
      by_cases hks : k < n
      · have hc := hB.cell k (by rw [part_len _ _ _ hk]; exact hks)
        have hf := hB.frozen k
        have hk8 : k / 8 < l.length := by omega
        obtain ⟨ad, rfl, _, hcs⟩ := hr.below hb (by omega)
        have hcl := hcs (k / 8) hk8
        have hbk := Lib.hid (byte_key (l.getD (k / 8) 0) k)
        have hw := hl (k / 8)
        have hst := Lib.hid (hB.set k (byteOf l k))
        have HBO : Hid (UInt8.ofNat (fld (l.getD (k / 8) 0) (8 * (k % 8)) 8) = byteOf l k) := rfl
        clear hcs hl hr
        generalize l.getD (k / 8) 0 = x at *
        go_wp2_with (fail)
        go_roundw
        case rel =>
          rw [hbk.out, HBO.out]
          exact ⟨k + 1, by go_num, by omega, by rw [← part_set l n k hks]; exact hst.out, hb.setCell (p := ⟨w.heap.size, k, none⟩) (Nat.le_refl _) _⟩
        case measure => simp [intOf]; omega
      · obtain rfl : k = n := by omega
        have hconv := run_text (P := Tryd.prog) hB 51 9 k Tryd.underlying51 Tryd.underlying5 Tryd.underlying9
        rw [part_len _ _ _ (Nat.le_refl _), part_all] at hconv
        go_wp2_with (fail)
        go_ret2
        rw [kv.out, ke.out]
        exact ⟨rfl, hb⟩
  · have kv := Lib.hid (txtV_no h)
    have ke := Lib.hid (txtE_no h)
    unfold isTxt at h
    by_cases hn0 : n < 0
    · clear h
      go_enter Tryd.func22, Tryd.ntmps22
      go_wp2_with (fail)
      go_ret2
      rw [kv.out, ke.out]
      exact ⟨rfl, Below.refl _ _⟩
    · have h2 : 8 * l.length < n := by omega
      clear h
      go_enter Tryd.func22, Tryd.ntmps22
      go_wp2_with (fail)
      go_ret2
      rw [kv.out, ke.out]
      exact ⟨rfl, Below.refl _ _⟩
end Go.Proofs.YtllamgefoibcoaaDoor
