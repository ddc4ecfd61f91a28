/- Scripts: rows of steps in memory; Heavy. -/
import Derived.Test.YtghppmgieljgiaaRef5
namespace Go.Proofs.Ytghppmgieljgiaa
open Go.RowKit
/-- A step. -/
structure St where
  act : Int
  pos : Int
  word : Nat
  ka : Option Addr
  keep : List Bool
  kc : Nat
def s0 : St := ⟨0, 0, 0, none, [], 0⟩
/-- A row of steps. -/
def SRow (w : World) (A : Option Addr) (l : List St) : Prop :=
  0 < l.length → ∃ b o, A = some ⟨b, o, none⟩ ∧ b < w.heap.size ∧ ∀ k, k < l.length →
    w.cell? ⟨b, o + k * 4, none⟩ = some (.int .i64 (l.getD k s0).act) ∧ w.cell? ⟨b, o + k * 4 + 1, none⟩ = some (.int .i64 (l.getD k s0).pos) ∧ w.cell? ⟨b, o + k * 4 + 2, none⟩ = some (.int .u64 ((l.getD k s0).word : Nat)) ∧
    w.cell? ⟨b, o + k * 4 + 3, none⟩ = some (.slice (l.getD k s0).ka (l.getD k s0).keep.length (l.getD k s0).kc)
theorem SRow.below {w w' : World} {A : Option Addr} {l : List St} (h : SRow w A l) (hb : Below w.heap.size w w') : SRow w' A l := fun h0 => by
  obtain ⟨b, o, e, hl, hc⟩ := h h0
  exact ⟨b, o, e, Nat.lt_of_lt_of_le hl hb.size, fun k hk => by
    obtain ⟨x0, x1, x2, x3⟩ := hc k hk
    exact ⟨(hb.cell (p := ⟨b, _, none⟩) hl).trans x0, (hb.cell (p := ⟨b, _, none⟩) hl).trans x1, (hb.cell (p := ⟨b, _, none⟩) hl).trans x2, (hb.cell (p := ⟨b, _, none⟩) hl).trans x3⟩⟩
/-- What is known of each step. -/
structure StOK (w : World) (s : St) : Prop where
  cel : Cel w s.ka (bv s.keep)
  len : s.keep.length ≤ 9223372036854775807
/-- Few steps, with few bools each. -/
def Light (l : List St) : Prop := l.length ≤ 150 ∧ ∀ k, k < l.length → (l.getD k s0).keep.length ≤ 1000
def HeavyPost (l : List St) (w : World) (e : Ending) (w' : World) : Prop := ∃ b, e = .returned (.bool b) ∧ w = w' ∧ (b = false → Light l)
/-- The first k steps have few bools each. -/
structure FewTo (l : List St) (k : Nat) : Prop where
  all : ∀ j, j < k → (l.getD j s0).keep.length ≤ 1000
theorem FewTo.step {l : List St} {k : Nat} (h : FewTo l k) (hk : (l.getD k s0).keep.length ≤ 1000) : FewTo l (k + 1) := ⟨fun j hj => by
  by_cases h1 : j < k
  · exact h.all j h1
  · obtain rfl : j = k := by omega
    exact hk⟩
set_option maxRecDepth 100000 in
theorem heavy_calls (w : World) (A : Option Addr) (l : List St) (c : Nat) (hr : SRow w A l) (hok : ∀ k, k < l.length → StOK w (l.getD k s0)) (hlen : l.length ≤ 9223372036854775807) :
    Calls Try.prog 8 #[.slice A l.length c] w (HeavyPost l w) := by
  have HO := Lib.hid hok
  clear hok
  go_enter Try.func8, Try.ntmps8
  go_wp2
  go_loop [3, 4] (fun n i => ∃ k q : Nat, i = .int .i64 k ∧ k ≤ l.length ∧ k ≤ 200 ∧ n = .int .i64 q ∧ q ≤ 1000 * k ∧ FewTo l k) (fun _ i => l.length - (intOf i).toNat)
  case atStart => exact ⟨0, 0, rfl, Nat.zero_le _, Nat.zero_le _, rfl, by omega, ⟨fun j hj => absurd hj (by omega)⟩⟩
  case round =>
    obtain ⟨k, q, rfl, hk, hk2, rfl, hq, hF⟩ := hrel
    by_cases hlt : k < l.length
    · by_cases h200 : k < 200
      · obtain ⟨b, o, rfl, hbl, hc⟩ := hr (by omega)
        obtain ⟨_, _, _, x3⟩ := hc k hlt
        have hm := (HO.out k hlt).len
        have hst := fun h => Lib.hid (hF.step (k := k) h)
        clear hc hr
        have HST := Lib.hid hst
        clear hst
        generalize hkl : (l.getD k s0).keep.length = m at *
        have HKL := Lib.hid hkl
        clear hkl
        by_cases hbig : 1000 < m
        · go_wp2
          go_ret
          exact ⟨true, rfl, rfl, fun h => by cases h⟩
        · have hF' := (HST.out (by omega)).out
          have hm2 : m ≤ 1000 := by omega
          clear hF
          go_wp2
          go_round
          case rel => exact ⟨k + 1, q + m, by go_num, by omega, by omega, by go_num, by omega, hF'⟩
          case measure => simp [intOf]; omega
      · have h150 : 150 < l.length := by omega
        have h200' : 200 ≤ k := by omega
        go_wp2
        go_ret
        exact ⟨true, rfl, rfl, fun h => by cases h⟩
    · obtain rfl : k = l.length := by omega
      by_cases h150 : 150 < l.length
      · go_wp2
        go_ret
        exact ⟨true, rfl, rfl, fun h => by cases h⟩
      · have h150' : l.length ≤ 150 := by omega
        by_cases hq5 : 5000 < q
        · go_wp2
          go_ret
          exact ⟨true, by simp; omega, rfl, fun h => by cases h⟩
        · go_wp2
          go_ret
          exact ⟨false, by simp; omega, rfl, fun _ => ⟨h150', hF.all⟩⟩
end Go.Proofs.Ytghppmgieljgiaa
