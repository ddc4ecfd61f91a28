/- What Pack hands back, the program's and the document's own: the words of the text. -/
import Derived.Test.YtgedahjifbopcaaDoorRefTx
import Derived.Test.YtgedahjifbopcaaDoorPackMath
import Derived.StillTailTactics
import Derived.RegionTactic
import Derived.BigRegion
namespace Go.Proofs.YtgedahjifbopcaaDoor
open Go.RowKit WordMath

/-- It hands back a new row. -/
def GivesRow (l : List Nat) (w : World) (e : Ending) (w' : World) : Prop :=
  ∃ A c, e = .returned (.slice A l.length c) ∧ Row w' A l ∧ Fresh w.heap.size A ∧ Below w.heap.size w w'
theorem blk_pack (w : World) (s : ByteArray) (e : TypeId) (n : Nat) (h : n = wn s.data.toList.length) : Blk e (w.alloc (.cells (madeCells #[.int .u64 0] n) e)) w.heap.size (packTo s.data.toList 0) := by
  subst h
  exact Blk.new w e _
theorem bt_get (s : ByteArray) (k : Nat) (h : k < s.size) : s[k].toNat = bt s.data.toList k := by
  unfold bt
  have h' : k < s.data.toList.length := by simpa using h
  rw [List.getD_eq_getElem?_getD, List.getElem?_eq_getElem h']
  rfl
theorem pack_key (x b j : Nat) (hb : b < 256) (hj : j < 8) (hx : x < 2 ^ (8 * j)) :
    bits BinOp.or IntKind.u64 (x : Int) (IntKind.u64.wrap (IntKind.u64.wrap (b : Int) * 2 ^ (j * 8))) = ((put x (8 * j) 8 b : Nat) : Int) := by
  have hp : 2 ^ (8 * j) ≤ 2 ^ 56 := Nat.pow_le_pow_right (by decide) (by omega)
  have hm : b * 2 ^ (8 * j) ≤ 255 * 2 ^ 56 := Nat.mul_le_mul (by omega) hp
  have e0 : IntKind.u64.wrap (b : Int) = (b : Int) := by rw [IntKind.wrap_u64]; omega
  have e : IntKind.u64.wrap ((b : Int) * 2 ^ (j * 8)) = ((b * 2 ^ (8 * j) : Nat) : Int) := by
    have : ((b : Int) * 2 ^ (j * 8)) = ((b * 2 ^ (8 * j) : Nat) : Int) := by rw [Nat.mul_comm j 8]; simp
    rw [this, IntKind.wrap_u64]
    clear this e0 hx
    generalize b * 2 ^ (8 * j) = z at *
    omega
  rw [e0, e, bits_or_u64_nat _ _ (by omega) (by omega), or_low _ _ _ hx]
/-- What a loop that packs holds. -/
theorem pack_step (s : ByteArray) (k : Nat) (hk : k < s.size) {w wr : World} {e : TypeId} {g : Nat} (hB : Blk e wr g (packTo s.data.toList k)) (hb : Below w.heap.size w wr) (hg : w.heap.size ≤ g) :
    Blk e (wr.setCell ⟨g, k / 8, none⟩ (.int .u64 (put ((packTo s.data.toList k).getD (k / 8) 0) (8 * (k % 8)) 8 s[k].toNat : Nat))) g (packTo s.data.toList (k + 1)) ∧
    Below w.heap.size w (wr.setCell ⟨g, k / 8, none⟩ (.int .u64 (put ((packTo s.data.toList k).getD (k / 8) 0) (8 * (k % 8)) 8 s[k].toNat : Nat))) := by
  rw [bt_get s k hk]
  exact ⟨hB.set _ _, hb.setCell (p := ⟨g, k / 8, none⟩) hg _⟩
theorem pack_calls (s : ByteArray) (w : World) (hs : s.size ≤ 140737488355328) :
    Calls Tryd.prog 25 #[.string s] w (GivesRow (packL s.data.toList) w) := by
  have hlen : s.data.toList.length = s.size := by simp
  have hmk := run_make_row' (P := Tryd.prog) 24 42 (.int .u64 0) 8 Tryd.underlying24 u64_info rfl .i64 .i64 (wn s.size) (by unfold wn; omega) (by unfold wn; omega)
  have hq : ∃ n q : Nat, n = wn s.size ∧ q = s.size / 8 ∧ ((s.size % 8 = 0 ∧ n = q) ∨ (0 < s.size % 8 ∧ n = q + 1)) := by
    refine ⟨_, _, rfl, rfl, ?_⟩; unfold wn; omega
  obtain ⟨n, q, hn, hq, hc⟩ := hq
  rw [← hn] at hmk
  have HN := Lib.hid hn
  have h0 := Lib.hid (blk_pack w s 42 n (by rw [hlen]; exact hn))
  rcases hc with ⟨hm, rfl⟩ | ⟨hm, rfl⟩
  · have hm' : ¬ 0 < (s.size : Int) % 8 := by omega
    rw [hq] at hmk h0 HN
    have hd : ((s.size / 8 : Nat) : Int) = (s.size : Int) / 8 := by omega
    rw [hd] at hmk
    have hlen := Lib.hid hlen
    clear hm hd hq hn
    go_enter Tryd.func25, Tryd.ntmps25
    go_wp2_with (fail)
    go_loopw [19] (fun i wr => ∃ k : Nat, i = .int .i64 k ∧ k ≤ s.size ∧ Blk 42 wr w.heap.size (packTo s.data.toList k) ∧ Below w.heap.size w wr) (fun i _ => s.size - (intOf i).toNat)
    case atStart => exact ⟨0, rfl, by omega, h0.out, (Below.refl _ _).alloc (Nat.le_refl _) _⟩
    case round =>
      obtain ⟨k, rfl, hk, hB, hb⟩ := hrel
      by_cases hks : k < s.size
      · have hc := hB.cell (k / 8) (by rw [packTo_len]; unfold wn; simp; omega)
        have hf := hB.frozen (k / 8)
        have hx := pack_low s.data.toList k (by simpa using hk) (k / 8) (by omega)
        rw [show 8 * (k - 8 * (k / 8)) = 8 * (k % 8) by omega] at hx
        have hst := pack_step s k hks hB hb (Nat.le_refl _)
        have HK := Lib.hid (pack_key _ s[k].toNat (k % 8) (UInt8.toNat_lt _) (by omega) hx)
        have HST := Lib.hid hst
        clear hst
        generalize (packTo s.data.toList k).getD (k / 8) 0 = x at *
        have hkd : (k : Int) / 8 < (s.size : Int) / 8 := by omega
        go_wp2_with (fail)
        go_region
        go_wp2_with (fail)
        go_roundw
        case rel =>
          rw [HK.out]
          exact ⟨k + 1, by go_num, by omega, HST.out.1, HST.out.2.drew⟩
        case measure => simp [intOf]; omega
      · obtain rfl : k = s.size := by omega
        go_wp2_with (fail)
        go_ret
        have hl : (packL s.data.toList).length = s.size / 8 := by unfold packL; rw [packTo_len]; exact HN.out.symm ▸ hlen.out ▸ rfl
        refine ⟨some ⟨w.heap.size, 0, none⟩, s.size / 8, ?_, ?_, Fresh.at (Nat.le_refl _), hb⟩
        · rw [hl]; rfl
        · have := hB.row
          rw [← hlen.out] at this
          exact this
  · have hm' : 0 < (s.size : Int) % 8 := by omega
    rw [hq] at hmk h0 HN
    have hd : ((s.size / 8 + 1 : Nat) : Int) = (s.size : Int) / 8 + 1 := by omega
    rw [hd] at hmk
    have hlen := Lib.hid hlen
    clear hm hd hq hn
    go_enter Tryd.func25, Tryd.ntmps25
    go_wp2_with (fail)
    go_loopw [19] (fun i wr => ∃ k : Nat, i = .int .i64 k ∧ k ≤ s.size ∧ Blk 42 wr w.heap.size (packTo s.data.toList k) ∧ Below w.heap.size w wr) (fun i _ => s.size - (intOf i).toNat)
    case atStart => exact ⟨0, rfl, by omega, h0.out, (Below.refl _ _).alloc (Nat.le_refl _) _⟩
    case round =>
      obtain ⟨k, rfl, hk, hB, hb⟩ := hrel
      by_cases hks : k < s.size
      · have hc := hB.cell (k / 8) (by rw [packTo_len]; unfold wn; simp; omega)
        have hf := hB.frozen (k / 8)
        have hx := pack_low s.data.toList k (by simpa using hk) (k / 8) (by omega)
        rw [show 8 * (k - 8 * (k / 8)) = 8 * (k % 8) by omega] at hx
        have hst := pack_step s k hks hB hb (Nat.le_refl _)
        have HK := Lib.hid (pack_key _ s[k].toNat (k % 8) (UInt8.toNat_lt _) (by omega) hx)
        have HST := Lib.hid hst
        clear hst
        generalize (packTo s.data.toList k).getD (k / 8) 0 = x at *
        have hkd : (k : Int) / 8 < (s.size : Int) / 8 + 1 := by omega
        have hkd2 : k / 8 < s.size / 8 + 1 := by omega
        go_wp2_with (fail)
        go_region
        go_wp2_with (fail)
        go_roundw
        case rel =>
          rw [HK.out]
          exact ⟨k + 1, by go_num, by omega, HST.out.1, HST.out.2.drew⟩
        case measure => simp [intOf]; omega
      · obtain rfl : k = s.size := by omega
        go_wp2_with (fail)
        go_ret
        have hl : (packL s.data.toList).length = s.size / 8 + 1 := by unfold packL; rw [packTo_len]; exact HN.out.symm ▸ hlen.out ▸ rfl
        refine ⟨some ⟨w.heap.size, 0, none⟩, s.size / 8 + 1, ?_, ?_, Fresh.at (Nat.le_refl _), hb⟩
        · rw [hl]; rfl
        · have := hB.row
          rw [← hlen.out] at this
          exact this
end Go.Proofs.YtgedahjifbopcaaDoor
