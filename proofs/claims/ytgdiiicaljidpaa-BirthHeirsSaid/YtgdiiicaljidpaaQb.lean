/- A list's bits that the mode lacks are taken off. -/
import Derived.Test.YtgdiiicaljidpaaQa
set_option linter.unusedSimpArgs false
set_option linter.unusedVariables false
set_option linter.unusedSimpArgs false
set_option linter.unusedVariables false
namespace Go.Proofs.Ytgdiiicaljidpaa
open Go.RowKit Go.Sort Go.Lib
/-- The first k classes cut, from the lowest one. -/
def cutK (l : Ac) (m : Nat) : Nat → Ac
  | 0 => l
  | k + 1 => setK (cutK l m k) (2 - k) (numK (cutK l m k) (2 - k) &&& (m / 8 ^ k % 256))
theorem cutK_rows (x : Ac) (m k : Nat) : (cutK x m k).us = x.us ∧ (cutK x m k).gs = x.gs ∧ (cutK x m k).hm = x.hm := by
  induction k with
  | zero => exact ⟨rfl, rfl, rfl⟩
  | succ k ih =>
    obtain ⟨h1, h2, h3⟩ := setK_rows (cutK x m k) (2 - k) (numK (cutK x m k) (2 - k) &&& (m / 8 ^ k % 256))
    exact ⟨h1.trans ih.1, h2.trans ih.2.1, h3.trans ih.2.2⟩
theorem cutK_three {l : Ac} (h : mayB l = true) (m : Nat) : cutK l m 3 = cutA l m := by
  have hm := mayB_iff.1 h
  have h1 := hm.ow
  have h2 := hm.gr
  have h3 := hm.ot
  have h4 := hm.ms
  obtain ⟨ow, gr, ot, us, gs, b, ms⟩ := l
  simp only at h1 h2 h3 h4
  have e1 := and_low ow (by omega) (m / 64 % 256) (Nat.mod_lt _ (by decide))
  have e2 := and_low gr (by omega) (m / 8 % 256) (Nat.mod_lt _ (by decide))
  have e3 := and_low ot (by omega) (m % 256) (Nat.mod_lt _ (by decide))
  have e4 := and_low ms (by omega) (m / 8 % 256) (Nat.mod_lt _ (by decide))
  have f1 : m / 64 % 256 % 8 = m / 64 % 8 := by omega
  have f2 : m / 8 % 256 % 8 = m / 8 % 8 := by omega
  have f3 : m % 256 % 8 = m % 8 := by omega
  rw [f1] at e1
  rw [f2] at e2 e4
  rw [f3] at e3
  cases b
  · simp [cutK, setK, numK, cls, cutA, e1, e2, e3]
  · simp [cutK, setK, numK, cls, cutA, e1, e4, e3]
theorem run_idxC (b j : Nat) (x : Ac) (hj : at1 x = j) (k : Nat) (hk : k < 3) (w : World) : (Instr.index 77 (.agg #[.pointer (some ⟨b, 2, none⟩), .pointer (some ⟨b, j, none⟩), .pointer (some ⟨b, 0, none⟩)]) (.int .i64 (k : Nat))).run Try.prog w = .ok (.pointer (some ⟨b, atK x (2 - k), none⟩)) w := by
  rw [run_idx3 _ _ _ k hk w]
  unfold atK
  obtain rfl | rfl | rfl : k = 0 ∨ k = 1 ∨ k = 2 := by omega
  all_goals simp [hj]
theorem Only.self {b : Nat} {a w : World} (h : Only (fun j => j = b) a w) (k : Nat) (v : Value) : Only (fun j => j = b) a (w.setCell ⟨b, k, none⟩ v) := h.setCell (p := ⟨b, k, none⟩) (.inl rfl) v
theorem nb_setK {x : Ac} (h : Nb x) (k v : Nat) (hv : v < 256) : Nb (setK x k v) := by
  have h1 := h.ow
  have h2 := h.gr
  have h3 := h.ot
  have h4 := h.ms
  unfold setK
  split
  · exact ⟨hv, h2, h3, h4, h.pm⟩
  · split
    · exact ⟨h1, by show (if x.hm then x.gr else v) < 256; split <;> omega, h3, by show (if x.hm then v else x.ms) < 256; split <;> omega, h.pm⟩
    · exact ⟨h1, h2, hv, h4, h.pm⟩
theorem nb_cutK {l : Ac} (h : Nb l) (m : Nat) : ∀ k, Nb (cutK l m k)
  | 0 => h
  | k + 1 => nb_setK (nb_cutK h m k) _ _ (Nat.lt_of_le_of_lt (and_le _ _) (numK_lt (nb_cutK h m k) (2 - k)))
set_option maxRecDepth 100000 in
set_option maxHeartbeats 4000000 in
theorem cut_calls (b : Nat) (l : Ac) (q : Lie) (m : Nat) (w : World) (h : Ab w b l q) (hl : mayB l = true) (hm : m < 65536) :
    Calls Try.prog 40 #[.pointer (some ⟨b, 0, none⟩), .int .u16 (m : Nat)] w fun e w' => e = .returned (.tuple #[]) ∧ Ab w' b (cutA l m) q ∧ Only (fun j => j = b) w w' := by
  obtain ⟨y0, y1, y2, y3, y4, y5, y6⟩ := h.cells
  have HH := Lib.hid h
  have HN := Lib.hid (nb_may hl)
  have HC3 := Lib.hid (cutK_three hl m)
  have hor : ∃ j, at1 l = j ∧ (l.hm = true ∧ j = 6 ∨ l.hm = false ∧ j = 1) := by
    unfold at1
    cases l.hm
    · exact ⟨1, rfl, .inr ⟨rfl, rfl⟩⟩
    · exact ⟨6, rfl, .inl ⟨rfl, rfl⟩⟩
  obtain ⟨j, hj, hor⟩ := hor
  have HJ := Lib.hid hj
  clear h hl hj
  rcases hor with ⟨hhm, rfl⟩ | ⟨hhm, rfl⟩
  all_goals
    rw [hhm] at y5
    clear hhm y0 y1 y2 y3 y4 y6
    go_enter Try.func40, Try.ntmps40
    go_wp2_with (go_quiet (fail))
    clear y5
    go_loopw [1, 6, 25] (fun v n i wr => ∃ k N : Nat, i = .int .i64 k ∧ k ≤ 3 ∧ v = .int .u16 (N : Nat) ∧ Hid (N = m / 8 ^ k) ∧ Hid (Ab wr b (cutK l m k) q) ∧ Hid (Only (fun j => j = b) w wr)) (fun _ _ i _ => 3 - (intOf i).toNat)
    case atStart => exact ⟨0, m, rfl, by omega, rfl, Lib.hid (by simp), Lib.hid HH.out, Lib.hid ((Only.refl _ w).drewN _)⟩
    case round =>
      obtain ⟨k, N, rfl, hk, rfl, hN, hA, hO⟩ := hrel
      by_cases hk3 : k < 3
      · have hI := fun W => run_idxC b _ l HJ.out k hk3 W
        have zk := hA.out
        have e := atK_eq (cutK_rows l m k).2.2 (2 - k)
        have hc := zk.classK (2 - k) (by omega)
        have hf := zk.frozenK (2 - k)
        rw [e] at hc hf
        have hN6 : N < 65536 := by have := hN.out; have := Nat.div_le_self m (8 ^ k); omega
        have hS : Ab (wr.setCell ⟨b, atK (cutK l m k) (2 - k), none⟩ (.int .u8 ((numK (cutK l m k) (2 - k) &&& (m / 8 ^ k % 256) : Nat) : Int))) b (cutK l m (k + 1)) q := zk.setK (2 - k) (numK (cutK l m k) (2 - k) &&& (m / 8 ^ k % 256)) (by omega)
        have hv : numK (cutK l m k) (2 - k) < 256 := numK_lt (nb_cutK HN.out m k) (2 - k)
        rw [e] at hS
        rw [← hN.out] at hS
        have HS := Lib.hid hS
        have hNN := hN.out
        obtain ⟨v, hv2⟩ : ∃ v, numK (cutK l m k) (2 - k) = v := ⟨_, rfl⟩
        obtain ⟨a, ha⟩ : ∃ a, atK l (2 - k) = a := ⟨_, rfl⟩
        rw [hv2] at hc hv HS
        rw [ha] at hc hf hI HS
        have ea : bits .and .u8 (v : Int) ((N : Int) % 256) = ((v &&& (N % 256) : Nat) : Int) := and8 v (N % 256) hv (by omega)
        clear hv2 ha e zk hS hNN
        go_wp2_with (fail)
        refine ⟨⟨k + 1, N / 8, by go_num, by omega, by congr 1, Lib.hid (by rw [hN.out, Nat.pow_succ, Nat.div_div_eq_div_mul]), HS, Lib.hid (hO.out.self _ _)⟩, ?_⟩
        simp [intOf]; omega
      · obtain rfl : k = 3 := by omega
        have hA3 := hA.out
        rw [HC3.out] at hA3
        have HA := Lib.hid hA3
        clear hA hA3
        go_wp2_with (fail)
        go_end0
        exact ⟨rfl, HA.out, hO.out⟩
end Go.Proofs.Ytgdiiicaljidpaa
