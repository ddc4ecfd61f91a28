/- What Pack hands back, the program's and the document's own: the words of the text. -/
import Derived.Test.YtlejmpinfbmccaaGreatDoorWordT
import Derived.Test.YtlejmpinfbmccaaGreatDoorMathT
import Derived.StillTailTactics
import Derived.RegionTactic
import Derived.BigRegion
import Derived.Test.YtlejmpinfbmccaaGreatDoorMemT
set_option linter.unusedSimpArgs false
set_option linter.unusedVariables false
namespace Go.Proofs.YtlejmpinfbmccaaGreatDoor
open Go.RowKit WordMath

/-- It hands back a new row. -/
def GivesRow (l : List Nat) (w : World) (e : Ending) (w' : World) : Prop :=
  ∃ A c, e = .returned (.slice A l.length c) ∧ Row w' A l ∧ Fresh w.heap.size A ∧ Below w.heap.size w w'
theorem blk_pack (w : World) (s : ByteArray) (e : TypeId) (n : Nat) (h : n = wn s.data.toList.length) : Blk e (w.alloc (.cells (madeCells #[.int .u64 0] n) e)) w.heap.size (packTo s.data.toList 0) := by
  subst h
  exact Blk.new w e _
theorem bt_get (s : ByteArray) (k : Nat) (h : k < s.size) : s[k].toNat = bt s.data.toList k := by
  unfold bt
  have h' : k < s.data.toList.length := by simpa using h
  rw [List.getD_eq_getElem?_getD, List.getElem?_eq_getElem h']
  rfl
theorem pack_key (x b j : Nat) (hb : b < 256) (hj : j < 8) (hx : x < 2 ^ (8 * j)) :
    bits BinOp.or IntKind.u64 (x : Int) (IntKind.u64.wrap (IntKind.u64.wrap (b : Int) * 2 ^ (j * 8))) = ((put x (8 * j) 8 b : Nat) : Int) := by
  have hp : 2 ^ (8 * j) ≤ 2 ^ 56 := Nat.pow_le_pow_right (by decide) (by omega)
  have hm : b * 2 ^ (8 * j) ≤ 255 * 2 ^ 56 := Nat.mul_le_mul (by omega) hp
  have e0 : IntKind.u64.wrap (b : Int) = (b : Int) := by rw [IntKind.wrap_u64]; omega
  have e : IntKind.u64.wrap ((b : Int) * 2 ^ (j * 8)) = ((b * 2 ^ (8 * j) : Nat) : Int) := by
    have : ((b : Int) * 2 ^ (j * 8)) = ((b * 2 ^ (8 * j) : Nat) : Int) := by rw [Nat.mul_comm j 8]; simp
    rw [this, IntKind.wrap_u64]
    clear this e0 hx
    generalize b * 2 ^ (8 * j) = z at *
    omega
  rw [e0, e, bits_or_u64_nat _ _ (by omega) (by omega), or_low _ _ _ hx]
/-- What a loop that packs holds. -/
theorem pack_step (s : ByteArray) (k : Nat) (hk : k < s.size) {w wr : World} {e : TypeId} {g : Nat} (hB : Blk e wr g (packTo s.data.toList k)) (hb : Below w.heap.size w wr) (hg : w.heap.size ≤ g) :
    Blk e (wr.setCell ⟨g, k / 8, none⟩ (.int .u64 (put ((packTo s.data.toList k).getD (k / 8) 0) (8 * (k % 8)) 8 s[k].toNat : Nat))) g (packTo s.data.toList (k + 1)) ∧
    Below w.heap.size w (wr.setCell ⟨g, k / 8, none⟩ (.int .u64 (put ((packTo s.data.toList k).getD (k / 8) 0) (8 * (k % 8)) 8 s[k].toNat : Nat))) := by
  rw [bt_get s k hk]
  exact ⟨hB.set _ _, hb.setCell (p := ⟨g, k / 8, none⟩) hg _⟩
theorem pack_calls (s : ByteArray) (w : World) (hs : s.size ≤ 140737488355328) :
    Calls Tryz.prog 108 #[.string s] w (GivesRow (packL s.data.toList) w) := by
  have hlen : s.data.toList.length = s.size := by simp
  have hmk := run_make_row' (P := Tryz.prog) 36 49 (.int .u64 0) 8 Tryz.underlying36 u64_info rfl .i64 .i64 (wn s.size) (by unfold wn; omega) (by unfold wn; omega)
  have hq : ∃ n q : Nat, n = wn s.size ∧ q = s.size / 8 ∧ ((s.size % 8 = 0 ∧ n = q) ∨ (0 < s.size % 8 ∧ n = q + 1)) := by
    refine ⟨_, _, rfl, rfl, ?_⟩; unfold wn; omega
  obtain ⟨n, q, hn, hq, hc⟩ := hq
  rw [← hn] at hmk
  have HN := Lib.hid hn
  have h0 := Lib.hid (blk_pack w s 49 n (by rw [hlen]; exact hn))
  rcases hc with ⟨hm, rfl⟩ | ⟨hm, rfl⟩
  · have hm' : ¬ 0 < (s.size : Int) % 8 := by omega
    rw [hq] at hmk h0 HN
    have hd : ((s.size / 8 : Nat) : Int) = (s.size : Int) / 8 := by omega
    rw [hd] at hmk
    have hlen := Lib.hid hlen
    clear hm hd hq hn
    go_enter Tryz.func108, Tryz.ntmps108
    go_wp2_with (fail)
    go_loopw [19] (fun i wr => ∃ k : Nat, i = .int .i64 k ∧ k ≤ s.size ∧ Blk 49 wr w.heap.size (packTo s.data.toList k) ∧ Below w.heap.size w wr) (fun i _ => s.size - (intOf i).toNat)
    case atStart => exact ⟨0, rfl, by omega, h0.out, (Below.refl _ _).alloc (Nat.le_refl _) _⟩
    case round =>
      obtain ⟨k, rfl, hk, hB, hb⟩ := hrel
      by_cases hks : k < s.size
      · have hc := hB.cell (k / 8) (by rw [packTo_len]; unfold wn; simp; omega)
        have hf := hB.frozen (k / 8)
        have hx := pack_low s.data.toList k (by simpa using hk) (k / 8) (by omega)
        rw [show 8 * (k - 8 * (k / 8)) = 8 * (k % 8) by omega] at hx
        have hst := pack_step s k hks hB hb (Nat.le_refl _)
        have HK := Lib.hid (pack_key _ s[k].toNat (k % 8) (UInt8.toNat_lt _) (by omega) hx)
        have HST := Lib.hid hst
        clear hst
        generalize (packTo s.data.toList k).getD (k / 8) 0 = x at *
        have hkd : (k : Int) / 8 < (s.size : Int) / 8 := by omega
        go_wp2_with (fail)
        go_region
        go_wp2_with (fail)
        go_roundw
        case rel =>
          rw [HK.out]
          exact ⟨k + 1, by go_num, by omega, HST.out.1, HST.out.2.drew⟩
        case measure => simp [intOf]; omega
      · obtain rfl : k = s.size := by omega
        go_wp2_with (fail)
        go_ret
        have hl : (packL s.data.toList).length = s.size / 8 := by unfold packL; rw [packTo_len]; exact HN.out.symm ▸ hlen.out ▸ rfl
        refine ⟨some ⟨w.heap.size, 0, none⟩, s.size / 8, ?_, ?_, Fresh.at (Nat.le_refl _), hb⟩
        · rw [hl]; rfl
        · have := hB.row
          rw [← hlen.out] at this
          exact this
  · have hm' : 0 < (s.size : Int) % 8 := by omega
    rw [hq] at hmk h0 HN
    have hd : ((s.size / 8 + 1 : Nat) : Int) = (s.size : Int) / 8 + 1 := by omega
    rw [hd] at hmk
    have hlen := Lib.hid hlen
    clear hm hd hq hn
    go_enter Tryz.func108, Tryz.ntmps108
    go_wp2_with (fail)
    go_loopw [19] (fun i wr => ∃ k : Nat, i = .int .i64 k ∧ k ≤ s.size ∧ Blk 49 wr w.heap.size (packTo s.data.toList k) ∧ Below w.heap.size w wr) (fun i _ => s.size - (intOf i).toNat)
    case atStart => exact ⟨0, rfl, by omega, h0.out, (Below.refl _ _).alloc (Nat.le_refl _) _⟩
    case round =>
      obtain ⟨k, rfl, hk, hB, hb⟩ := hrel
      by_cases hks : k < s.size
      · have hc := hB.cell (k / 8) (by rw [packTo_len]; unfold wn; simp; omega)
        have hf := hB.frozen (k / 8)
        have hx := pack_low s.data.toList k (by simpa using hk) (k / 8) (by omega)
        rw [show 8 * (k - 8 * (k / 8)) = 8 * (k % 8) by omega] at hx
        have hst := pack_step s k hks hB hb (Nat.le_refl _)
        have HK := Lib.hid (pack_key _ s[k].toNat (k % 8) (UInt8.toNat_lt _) (by omega) hx)
        have HST := Lib.hid hst
        clear hst
        generalize (packTo s.data.toList k).getD (k / 8) 0 = x at *
        have hkd : (k : Int) / 8 < (s.size : Int) / 8 + 1 := by omega
        have hkd2 : k / 8 < s.size / 8 + 1 := by omega
        go_wp2_with (fail)
        go_region
        go_wp2_with (fail)
        go_roundw
        case rel =>
          rw [HK.out]
          exact ⟨k + 1, by go_num, by omega, HST.out.1, HST.out.2.drew⟩
        case measure => simp [intOf]; omega
      · obtain rfl : k = s.size := by omega
        go_wp2_with (fail)
        go_ret
        have hl : (packL s.data.toList).length = s.size / 8 + 1 := by unfold packL; rw [packTo_len]; exact HN.out.symm ▸ hlen.out ▸ rfl
        refine ⟨some ⟨w.heap.size, 0, none⟩, s.size / 8 + 1, ?_, ?_, Fresh.at (Nat.le_refl _), hb⟩
        · rw [hl]; rfl
        · have := hB.row
          rw [← hlen.out] at this
          exact this
end Go.Proofs.YtlejmpinfbmccaaGreatDoor
/- What the document's own Pack hands back: the same words. -/
namespace Go.Proofs.YtlejmpinfbmccaaGreatDoor
open Go.RowKit WordMath
theorem quiet_left {P : Program} {f : FuncId} {args : Array Value} {w : World} {n : Nat} {v : Value}
    (h : Calls P f args (w.drewN n) fun e w' => e = .returned v ∧ w.drewN n = w') : Calls P f args (w.drewN n) fun e w'' => e = .returned v ∧ ∃ m, w'' = w.drewN m :=
  h.mono fun _ _ ⟨he, hm⟩ => ⟨he, n, hm.symm⟩
theorem refput8_calls (v a b : Int) (w : World) (v0 : 0 ≤ v) (v1 : v < 18446744073709551616) (a0 : 0 ≤ a) (a1 : a ≤ 56) (b0 : 0 ≤ b) (b1 : b < 256) :
    Calls Tryz.prog 68 #[.int .u64 v, .int .i64 a, .int .i64 8, .int .u64 b] w fun e w' => e = .returned (.tuple #[.int .u64 (put v.toNat a.toNat 8 b.toNat : Nat), .int .i64 0]) ∧ w = w' := by
  have hp : isPut a 8 b := ⟨⟨a0, by omega, by omega⟩, by simp; omega⟩
  have h := refput_calls v a 8 b w v0 v1 (by omega) b0 (by omega)
  rw [putV_yes hp, putE_yes hp] at h
  exact h
theorem rpack_calls (s : ByteArray) (w : World) (hs : s.size ≤ 140737488355328) :
    Calls Tryz.prog 45 #[.string s] w (GivesRow (packL s.data.toList) w) := by
  have hlen : s.data.toList.length = s.size := by simp
  have hmk := run_make_row' (P := Tryz.prog) 36 49 (.int .u64 0) 8 Tryz.underlying36 u64_info rfl .i64 .i64 (wn s.size) (by unfold wn; omega) (by unfold wn; omega)
  have hd : ((wn s.size : Nat) : Int) = ((s.size : Int) + 7) / 8 := by unfold wn; omega
  rw [hd] at hmk
  have h0 := Lib.hid (blk_pack w s 49 (wn s.size) (by rw [hlen]))
  have HL := Lib.hid hlen
  clear hd hlen
  go_enter Tryz.func45, Tryz.ntmps45
  go_wp2_with (fail)
  go_loopw [4] (fun i wr => ∃ k : Nat, i = .int .i64 k ∧ k ≤ s.size ∧ Blk 49 wr w.heap.size (packTo s.data.toList k) ∧ Below w.heap.size w wr) (fun i _ => s.size - (intOf i).toNat)
  case atStart => exact ⟨0, rfl, by omega, h0.out, (Below.refl _ _).alloc (Nat.le_refl _) _⟩
  case round =>
    obtain ⟨k, rfl, hk, hB, hb⟩ := hrel
    by_cases hks : k < s.size
    · have hc := hB.cell (k / 8) (by rw [packTo_len]; unfold wn; simp; omega)
      have hf := hB.frozen (k / 8)
      have hx := pack_wd s.data.toList k (by simpa using hk) (k / 8)
      have HST := fun nq => Lib.hid (pack_step s k hks (hB.drewN nq) (below_drewN hb nq) (Nat.le_refl _))
      have hb8 := UInt8.toNat_lt s[k]
      have hkw : (k : Int) / 8 < (wn s.size : Nat) := by unfold wn; omega
      have hk0 : (0 : Int) ≤ (k : Int) / 8 := by omega
      have hkn : k / 8 < wn s.size := by omega
      generalize (packTo s.data.toList k).getD (k / 8) 0 = x at *
      go_wp2_with (fail)
      have hc2 : wr.cell? ⟨w.heap.size, ((k : Int) / 8).toNat, none⟩ = some (.int .u64 (x : Int)) := by rw [show ((k : Int) / 8).toNat = k / 8 by omega]; exact hc
      have EK := Lib.hid (show (8 * ((k : Int) % 8)).toNat = 8 * (k % 8) by omega)
      refine wp_region_quiet_lit (by kernel_rfl) (by kernel_rfl) ?_
      repeat (first | go_big_quiet_step ((go_at_call 68; exact quiet_left (refput8_calls _ _ _ _ (by omega) (by omega) (by omega) (by omega) (by omega) (by omega)))) | quiet_step ((go_at_call 68; exact quiet_left (refput8_calls _ _ _ _ (by omega) (by omega) (by omega) (by omega) (by omega) (by omega)))))
      refine wpQuiet_nil ?_
      rintro _ ⟨nq, rfl⟩
      go_wp2_with (fail)
      go_roundw
      case rel => exact ⟨k + 1, by go_num, by omega, (HST nq).out.1, (HST nq).out.2⟩
      case measure => simp [intOf]; omega
    · obtain rfl : k = s.size := by omega
      go_wp2_with (fail)
      go_ret
      have hl : (packL s.data.toList).length = wn s.size := by unfold packL; rw [packTo_len, HL.out]
      refine ⟨some ⟨w.heap.size, 0, none⟩, wn s.size, ?_, ?_, Fresh.at (Nat.le_refl _), hb⟩
      · rw [hl]; rfl
      · have := hB.row
        rw [← HL.out] at this
        exact this
end Go.Proofs.YtlejmpinfbmccaaGreatDoor
/- What Text hands back, the program's and the document's own: the bytes of the words. -/
namespace Go.Proofs.YtlejmpinfbmccaaGreatDoor
open Go.RowKit WordMath

/-- The byte that the field at a is. -/
def byteOf (l : List Nat) (k : Nat) : UInt8 := UInt8.ofNat (fld (l.getD (k / 8) 0) (8 * (k % 8)) 8)
theorem byte_key (x k : Nat) : (x : Int) / 2 ^ (k % 8 * 8) % 256 = ((UInt8.ofNat (fld x (8 * (k % 8)) 8)).toNat : Int) := by
  have e : ((x : Int) / 2 ^ (k % 8 * 8)) = ((x / 2 ^ (8 * (k % 8)) : Nat) : Int) := by rw [Nat.mul_comm (k % 8) 8]; simp
  rw [e]
  unfold fld
  simp
/-- The bytes behind k rounds. -/
def part (l : List Nat) (n k : Nat) : List UInt8 := textL l k ++ List.replicate (n - k) 0
theorem part_set (l : List Nat) (n k : Nat) (h : k < n) : (part l n k).set k (byteOf l k) = part l n (k + 1) := by
  unfold part
  rw [List.set_append_right _ _ (by rw [textL_len]; exact Nat.le_refl _), textL_len, Nat.sub_self, show n - k = (n - (k + 1)) + 1 by omega, List.replicate_succ, List.set_cons_zero, textL_succ]
  simp [byteOf]
theorem part_len (l : List Nat) (n k : Nat) (h : k ≤ n) : (part l n k).length = n := by
  unfold part; rw [List.length_append, textL_len, List.length_replicate]; omega
theorem part_all (l : List Nat) (n : Nat) : part l n n = textL l n := by unfold part; simp
theorem text_calls (A : Option Addr) (l : List Nat) (c : Nat) (n : Int) (w : World) (hn : -9223372036854775808 ≤ n) (hr : Row w A l) (hl : Wd l) (hlen : l.length ≤ 1099511627776) :
    Calls Tryz.prog 112 #[.slice A l.length c, .int .i64 n] w (GivesText (txtV l n) (txtE l n) w) := by
  by_cases h : isTxt l n
  · have kv := Lib.hid (txtV_yes h)
    have ke := Lib.hid (txtE_yes h)
    obtain ⟨h0, h1⟩ := h
    obtain ⟨n, rfl⟩ := Int.eq_ofNat_of_zero_le h0
    rw [Int.toNat_natCast] at kv
    have hmk := run_make_row' (P := Tryz.prog) 139 5 (.int .u8 0) 1 Tryz.underlying139 u8_info rfl .i64 .i64 n (by omega) (by omega)
    have hb0 := Lib.hid (Bblk.new w 5 n)
    go_enter Tryz.func112, Tryz.ntmps112
    go_wp2_with (fail)
    go_loopw [20] (fun i wr => ∃ k : Nat, i = .int .i64 k ∧ k ≤ n ∧ Bblk 5 wr w.heap.size (part l n k) ∧ Below w.heap.size w wr) (fun i _ => n - (intOf i).toNat)
    case atStart => exact ⟨0, rfl, by omega, by rw [show part l n 0 = List.replicate n 0 by simp [part, textL]]; exact hb0.out, (Below.refl _ _).alloc (Nat.le_refl _) _⟩
    case round =>
      obtain ⟨k, rfl, hk, hB, hb⟩ := hrel
      by_cases hks : k < n
      · have hc := hB.cell k (by rw [part_len _ _ _ hk]; exact hks)
        have hf := hB.frozen k
        have hk8 : k / 8 < l.length := by omega
        obtain ⟨ad, rfl, _, hcs⟩ := hr.below hb (by omega)
        have hcl := hcs (k / 8) hk8
        have hbk := Lib.hid (byte_key (l.getD (k / 8) 0) k)
        have hw := hl (k / 8)
        have hst := Lib.hid (hB.set k (byteOf l k))
        have HBO : Hid (UInt8.ofNat (fld (l.getD (k / 8) 0) (8 * (k % 8)) 8) = byteOf l k) := rfl
        clear hcs hl hr
        generalize l.getD (k / 8) 0 = x at *
        go_wp2_with (fail)
        go_roundw
        case rel =>
          rw [hbk.out, HBO.out]
          exact ⟨k + 1, by go_num, by omega, by rw [← part_set l n k hks]; exact hst.out, hb.setCell (p := ⟨w.heap.size, k, none⟩) (Nat.le_refl _) _⟩
        case measure => simp [intOf]; omega
      · obtain rfl : k = n := by omega
        have hconv := run_text (P := Tryz.prog) hB 139 9 k Tryz.underlying139 Tryz.underlying5 Tryz.underlying9
        rw [part_len _ _ _ (Nat.le_refl _), part_all] at hconv
        go_wp2_with (fail)
        go_ret2
        rw [kv.out, ke.out]
        exact ⟨rfl, hb⟩
  · have kv := Lib.hid (txtV_no h)
    have ke := Lib.hid (txtE_no h)
    unfold isTxt at h
    by_cases hn0 : n < 0
    · clear h
      go_enter Tryz.func112, Tryz.ntmps112
      go_wp2_with (fail)
      go_ret2
      rw [kv.out, ke.out]
      exact ⟨rfl, Below.refl _ _⟩
    · have h2 : 8 * l.length < n := by omega
      clear h
      go_enter Tryz.func112, Tryz.ntmps112
      go_wp2_with (fail)
      go_ret2
      rw [kv.out, ke.out]
      exact ⟨rfl, Below.refl _ _⟩
end Go.Proofs.YtlejmpinfbmccaaGreatDoor
