/- The document's own Load, Words; SamePends. -/
import Derived.Test.YtghppmgieljgiaaRef2
namespace Go.Proofs.Ytghppmgieljgiaa
open Go.RowKit
theorem own_at {w : World} {A : Option Addr} {c k : Nat} {L : List Pn} (h : OwnR w 61 3 A L.length c (pv L)) (hk : k < L.length) :
    ∃ gp, A = some ⟨gp, 0, none⟩ ∧ w.cell? ⟨gp, k * 3, none⟩ = some (.int .i64 ((L.getD k p0).pos : Nat)) ∧ w.cell? ⟨gp, k * 3 + 1, none⟩ = some (.int .u64 ((L.getD k p0).word : Nat)) ∧ w.cell? ⟨gp, k * 3 + 2, none⟩ = some (.bool (L.getD k p0).fl) := by
  obtain ⟨ad, e, _, hc⟩ := h.cel (by rw [pv_length]; omega)
  obtain ⟨_, _, _, h4⟩ := h
  rcases h4 with ⟨h4, _⟩ | ⟨gp, cur, h4, _⟩
  · rw [h4] at e; cases e
  · rw [h4] at e
    injection e with e
    subst e
    obtain ⟨e0, e1, e2⟩ := pv_get L k hk
    have f := fun j u hu => (by rw [← add_zero_block gp j]; exact hc j u hu : w.cell? ⟨gp, j, none⟩ = some u)
    exact ⟨gp, h4, f _ _ e0, f _ _ e1, f _ _ e2⟩
theorem lay_take (K : List Nat) (L : List Pn) (k : Nat) (hk : k < L.length) : lay K (L.take (k + 1)) = (lay K (L.take k)).set (L.getD k p0).pos (L.getD k p0).word := by
  rw [take_succ_getD L p0 k hk, lay_snoc]
section
variable {w : World} {g gk ck cp : Nat} {A : Option Addr} {K : List Nat} {L : List Pn} {F : Nat → Prop}
theorem rload_calls (h : RDevC w g gk ck A cp K L) (a : Nat) (ha : a < K.length) (_ : K.length ≤ 1099511627776) (hL : L.length ≤ 1099511627776) :
    Calls Try.prog 23 #[.pointer (some ⟨g, 0, none⟩), .int .i64 (a : Nat)] w fun e w' => e = .returned (.int .u64 (((lay K L).getD a 0 : Nat) : Int)) ∧ w = w' := by
  have c0 := h.c0
  have c1 := h.c1
  have x := h.hk.cell a ha
  generalize hv : K.getD a 0 = v at x
  have HV := Lib.hid hv
  clear hv
  generalize hy : (lay K L).getD a 0 = y
  have HY := Lib.hid hy
  clear hy
  go_enter Try.func23, Try.ntmps23
  go_wp2
  go_loop [5, 6] (fun r i => ∃ k u : Nat, i = .int .i64 k ∧ k ≤ L.length ∧ r = .int .u64 u ∧ Hid (u = (lay K (L.take k)).getD a 0)) (fun _ i => L.length - (intOf i).toNat)
  case atStart => exact ⟨0, v, rfl, Nat.zero_le _, rfl, by rw [← HV.out]; rfl⟩
  case round =>
    obtain ⟨k, u, rfl, hk, rfl, HU⟩ := hrel
    by_cases hlt : k < L.length
    · obtain ⟨gp, rfl, x0, x1, _⟩ := own_at h.hp hlt
      have hl := lay_take K L k hlt
      by_cases hq : (L.getD k p0).pos = a
      · have HN := Lib.hid (show (L.getD k p0).word = (lay K (L.take (k + 1))).getD a 0 by rw [hl, hq, getD_set_eq _ _ _ (by rw [lay_length]; exact ha)])
        rw [hq] at x0
        clear hl hq
        generalize L.getD k p0 = p at *
        go_wp2
        go_round
        case rel => exact ⟨k + 1, p.word, by go_num, by omega, rfl, HN⟩
        case measure => simp [intOf]; omega
      · have HN := Lib.hid (show u = (lay K (L.take (k + 1))).getD a 0 by rw [hl, getD_set_ne _ _ _ _ hq]; exact HU.out)
        have hq1 : (((L.getD k p0).pos : Int) == (a : Int)) = false := by rw [beq_eq_false_iff_ne]; omega
        clear hl hq
        generalize L.getD k p0 = p at *
        go_wp2
        go_round
        case rel => exact ⟨k + 1, u, by go_num, by omega, rfl, HN⟩
        case measure => simp [intOf]; omega
    · obtain rfl : k = L.length := by omega
      have hu : u = y := by rw [HU.out, List.take_length]; exact HY.out
      subst hu
      go_wp2
      go_ret
      exact ⟨rfl, rfl⟩
theorem same_pends (A B : Option Addr) (c d : Nat) (L : List Pn) (w : World) (ha : OwnR w 61 3 A L.length c (pv L)) (hb : OwnR w 61 3 B L.length d (pv L)) (hL : L.length ≤ 1099511627776) :
    Calls Try.prog 24 #[.slice A L.length c, .slice B L.length d] w (Q (.bool true) w) := by
  go_enter Try.func24, Try.ntmps24
  go_wp2
  go_loopw [5] (fun i wr => ∃ k : Nat, i = .int .i64 k ∧ k ≤ L.length ∧ ∃ q, wr = w.drewN q) (fun i _ => L.length - (intOf i).toNat)
  case atStart => exact ⟨0, rfl, by omega, 0, rfl⟩
  case round =>
    obtain ⟨k, rfl, hk, q, rfl⟩ := hrel
    by_cases h1 : k < L.length
    · obtain ⟨ga, rfl, a0, a1, a2⟩ := own_at ha h1
      obtain ⟨gb, rfl, b0, b1, b2⟩ := own_at hb h1
      clear ha hb
      generalize L.getD k p0 = p at *
      go_wp2
      go_quiet (fail)
      go_wp2
      go_roundw
      case rel => exact ⟨k + 1, by go_num, by omega, _, rfl⟩
      case measure => simp [intOf]; omega
    · obtain rfl : k = L.length := by omega
      go_wp2
      go_ret
      exact Q.of
/-- What Words hands back: a row of the call's own. -/
def RWords (w : World) (n : Nat) (l : List Nat) (e : Ending) (w' : World) : Prop :=
  ∃ g c, e = .returned (.slice (some ⟨g, 0, none⟩) n c) ∧ Blkp 32 w' g l ∧ Below w.heap.size w w'
theorem rwords_calls (h : RDevC w g gk ck A cp K L) (hK0 : 0 < K.length) (hpos : ∀ p ∈ L, p.pos < K.length) (hm : K.length ≤ 1099511627776) (hL : L.length ≤ 1099511627776) :
    Calls Try.prog 28 #[.pointer (some ⟨g, 0, none⟩)] w (RWords w K.length (lay K L)) := by
  obtain ⟨i0, hi0, hz0, hs0, hb0⟩ := info_parts u64_info
  have HI := Lib.hid hi0
  have HZ := Lib.hid hz0
  have HS := Lib.hid hs0
  have HB := Lib.hid hb0
  clear hi0 hz0 hs0 hb0
  have c0 := h.c0
  have HP := Lib.hid hpos
  clear hpos
  go_enter Try.func28, Try.ntmps28
  go_wp2_with (at_builtin; refine wpList_cloneC rfl (.const (.slice none 0 0)) (.tmp 8) 50 rfl 32 i0 Try.underlying50 HI.out HZ.out HS.out HB.out (some ⟨gk, 0, none⟩) K ck rfl rfl (Row.of_cel h.hk.cel) (by omega) ?_; intro A1 c1 w1 hr1 hf1 hb1 hblk hc1)
  obtain ⟨g1, rfl, m1, k1⟩ := hblk hK0
  have HR := Lib.hid hr1
  clear hblk hr1 hf1 c0
  go_loopw [4] (fun i wr => ∃ k : Nat, i = .int .i64 k ∧ k ≤ L.length ∧ Blkp 32 wr g1 (lay K (L.take k)) ∧ Below w.heap.size w wr) (fun i _ => L.length - (intOf i).toNat)
  case atStart => exact ⟨0, rfl, Nat.zero_le _, k1, hb1⟩
  case round =>
    obtain ⟨k, rfl, hk, hkk, hbr⟩ := hrel
    have hd := h.below hbr
    have c1 := hd.c1
    by_cases hlt : k < L.length
    · obtain ⟨gp, rfl, x0, x1, _⟩ := own_at hd.hp hlt
      have hpk := HP.out (L.getD k p0) (by rw [getD_of_lt _ _ _ hlt]; exact List.getElem_mem _)
      have hck := hkk.cell (L.getD k p0).pos (by rw [lay_length]; exact hpk)
      have hfk := hkk.frozen (L.getD k p0).pos
      have hl := Lib.hid (lay_take K L k hlt)
      have hset := Lib.hid (hkk.set (L.getD k p0).pos (L.getD k p0).word)
      generalize hp : L.getD k p0 = p at *
      clear hp
      go_wp2
      go_region
      go_wp2
      go_roundw
      case rel => exact ⟨k + 1, by go_num, by omega, by rw [hl.out]; exact hset.out, (Below.setCell (p := ⟨g1, p.pos, none⟩) hbr m1 _).drew⟩
      case measure => simp [intOf]; omega
    · obtain rfl : k = L.length := by omega
      rw [List.take_length] at hkk
      go_wp2
      go_ret
      exact ⟨_, _, rfl, hkk, hbr⟩
end
end Go.Proofs.Ytghppmgieljgiaa
